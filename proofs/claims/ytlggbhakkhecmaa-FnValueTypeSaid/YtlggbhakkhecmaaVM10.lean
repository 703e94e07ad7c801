/- Merged: SrcI, SrcJ, SrcK, SrcL, SrcS, SrcT, SrcVv, NtV. -/
import Derived.Test.YtlggbhakkhecmaaVM6
import Derived.Test.YtlggbhakkhecmaaVM7
namespace Go.Proofs.Ytlggbhakkhecmaa
open Go.RowKit

/-- A source type's node in memory. 'S': which blocks it lies in. -/
inductive SIn (w : World) (S : Nat → Prop) : STy → Nat → Prop
  | bit (hd : ByteArray) (hh : hd.toList = [98]) (b : Nat) (hS : S b) (hb : w.heap[b]? = some (.cells #[.string hd, .pointer none, .pointer none] 60 (0, 0))) : SIn w S .bit b
  | fn (hd : ByteArray) (hh : hd.toList = [62]) (x y : STy) (b c d : Nat) (hS : S b) (hb : w.heap[b]? = some (.cells #[.string hd, .pointer (some ⟨c, 0, none⟩), .pointer (some ⟨d, 0, none⟩)] 60 (0, 0))) (hx : SIn w S x c) (hy : SIn w S y d) : SIn w S (.fn x y) b
  | pair (hd : ByteArray) (hh : hd.toList = [42]) (x y : STy) (b c d : Nat) (hS : S b) (hb : w.heap[b]? = some (.cells #[.string hd, .pointer (some ⟨c, 0, none⟩), .pointer (some ⟨d, 0, none⟩)] 60 (0, 0))) (hx : SIn w S x c) (hy : SIn w S y d) : SIn w S (.pair x y) b
theorem SIn.keep {w w' : World} {S S' : Nat → Prop} {s : STy} {b : Nat} (h : SIn w S s b) (hb : ∀ k, S k → k < w.heap.size → w'.heap[k]? = w.heap[k]?) (hS : ∀ k, S k → k < w.heap.size → S' k) : SIn w' S' s b := by
  induction h with
  | bit hd hh b hS0 hb0 => exact .bit hd hh b (hS b hS0 (lt_of_block hb0)) ((hb b hS0 (lt_of_block hb0)).trans hb0)
  | fn hd hh x y b c d hS0 hb0 _ _ ihx ihy => exact .fn hd hh x y b c d (hS b hS0 (lt_of_block hb0)) ((hb b hS0 (lt_of_block hb0)).trans hb0) ihx ihy
  | pair hd hh x y b c d hS0 hb0 _ _ ihx ihy => exact .pair hd hh x y b c d (hS b hS0 (lt_of_block hb0)) ((hb b hS0 (lt_of_block hb0)).trans hb0) ihx ihy
theorem SIn.kept {w w' : World} {S : Nat → Prop} {s : STy} {b : Nat} (h : SIn w S s b) (hk : Kept w w') : SIn w' S s b := h.keep (fun k _ hl => hk k hl) (fun _ h _ => h)
theorem SIn.wide {w : World} {S S' : Nat → Prop} {s : STy} {b : Nat} (h : SIn w S s b) (hS : ∀ k, S k → S' k) : SIn w S' s b := h.keep (fun _ _ _ => rfl) (fun k h _ => hS k h)
theorem cells_of_3 {w : World} {b : Nat} {x0 x1 x2 : Value} {t : TypeId} (h : w.heap[b]? = some (.cells #[x0, x1, x2] t (0, 0))) :
    w.cell? ⟨b, 0, none⟩ = some x0 ∧ w.cell? ⟨b, 1, none⟩ = some x1 ∧ w.cell? ⟨b, 2, none⟩ = some x2 := by simp [World.cell?, h]

/-- What sourceTypeOf leaves. -/
def SPost (o : Option STy) (w : World) (e : Ending) (w' : World) : Prop :=
  Below w.heap.size w w' ∧ match o with
    | some s => ∃ a : Nat, e = .returned (.tuple #[.pointer (some ⟨a, 0, none⟩), .bool true]) ∧ SIn w' (fun k => w.heap.size ≤ k) s a
    | none => e = .returned (.tuple #[.pointer none, .bool false])
theorem SPost.none {w w' : World} {e : Ending} (h : SPost Option.none w e w') : e = .returned (.tuple #[.pointer Option.none, .bool false]) ∧ Below w.heap.size w w' := ⟨h.2, h.1⟩
theorem SPost.some {w w' : World} {e : Ending} {s : STy} (h : SPost (Option.some s) w e w') : ∃ a : Nat, e = .returned (.tuple #[.pointer (Option.some ⟨a, 0, Option.none⟩), .bool true]) ∧ Below w.heap.size w w' ∧ SIn w' (fun k => w.heap.size ≤ k) s a :=
  let ⟨hb, a, he, hn⟩ := h; ⟨a, he, hb, hn⟩
theorem sPost_none {w w' : World} (h : Below w.heap.size w w') : SPost none w (.returned (.tuple #[.pointer none, .bool false])) w' := ⟨h, rfl⟩
theorem sPost_some {w w' : World} {s : STy} {a : Nat} (h : Below w.heap.size w w') (hn : SIn w' (fun k => w.heap.size ≤ k) s a) : SPost (some s) w (.returned (.tuple #[.pointer (some ⟨a, 0, none⟩), .bool true])) w' := ⟨h, a, rfl, hn⟩
/-- A node is put together. -/
theorem sNode {w w1 w2 w3 : World} {x y : STy} {c d : Nat} (hb1 : Below w.heap.size w w1) (hx : SIn w2 (fun k => w1.heap.size ≤ k) x c) (hb2 : Below w1.heap.size w1 w2) (hy : SIn w3 (fun k => w2.heap.size ≤ k) y d) (hb3 : Below w2.heap.size w2 w3) (hd : ByteArray) :
    Below w.heap.size w (w3.alloc (.cells #[.string hd, .pointer (some ⟨c, 0, none⟩), .pointer (some ⟨d, 0, none⟩)] 60)) ∧
    (hd.toList = [62] → SIn (w3.alloc (.cells #[.string hd, .pointer (some ⟨c, 0, none⟩), .pointer (some ⟨d, 0, none⟩)] 60)) (fun k => w.heap.size ≤ k) (.fn x y) w3.heap.size) ∧
    (hd.toList = [42] → SIn (w3.alloc (.cells #[.string hd, .pointer (some ⟨c, 0, none⟩), .pointer (some ⟨d, 0, none⟩)] 60)) (fun k => w.heap.size ≤ k) (.pair x y) w3.heap.size) := by
  have s1 := hb1.size; have s2 := hb2.size; have s3 := hb3.size
  have hx2 : SIn (w3.alloc (.cells #[.string hd, .pointer (some ⟨c, 0, none⟩), .pointer (some ⟨d, 0, none⟩)] 60)) (fun k => w.heap.size ≤ k) x c :=
    (hx.kept ((Kept.of_below hb3 (Nat.le_refl _)).alloc hb3.size _)).wide (fun k hk => by omega)
  have hy2 : SIn (w3.alloc (.cells #[.string hd, .pointer (some ⟨c, 0, none⟩), .pointer (some ⟨d, 0, none⟩)] 60)) (fun k => w.heap.size ≤ k) y d :=
    (hy.kept ((Kept.refl _).alloc (Nat.le_refl _) _)).wide (fun k hk => by omega)
  exact ⟨(hb1.trans ((hb2.trans (hb3.mono hb2.size)).mono hb1.size)).alloc (by omega) _, fun h => .fn hd h x y _ c d (by omega) (heap_alloc_new _ _) hx2 hy2, fun h => .pair hd h x y _ c d (by omega) (heap_alloc_new _ _) hx2 hy2⟩
end Go.Proofs.Ytlggbhakkhecmaa

namespace Go.Proofs.Ytlggbhakkhecmaa
open Go.RowKit

set_option maxRecDepth 100000 in
set_option maxHeartbeats 4000000 in
theorem sourceTypeOf_any {w0 : World} {S : Nat → Prop} {t : Tree} {h : Hd} (ht : TIn w0 S t h) : ∀ w, Kept w0 w → w0.heap.size ≤ w.heap.size →
    Calls Try.prog 42 #[.agg #[.string h.a, .slice h.p h.l h.c]] w (SPost t.sty w) := by
  induction ht with
  | atom s hne hm =>
    intro w _ _
    by_cases hb : s.toList = [98]
    · have h1 : (s.toList == [98]) = true := by simp [hb]
      have HR := hid (show (Tree.atom s).sty = some .bit by rw [Tree.sty, if_pos hb])
      clear hb
      go_enter Try.func42, Try.ntmps42
      go_wp2
      go_ret2
      rw [HR.out]
      exact sPost_some (((Below.refl _ _).alloc (Nat.le_refl _) _).alloc (by simp) _) (.bit ({ data := #[98] } : ByteArray) (by rw [Go.ByteArray.toList_eq]) (w.heap.size + 1) (Nat.le_succ _) (heap_new _ _ _ (by simp)))
    · have h1 : (s.toList == [98]) = false := by simpa using hb
      have HR := hid (show (Tree.atom s).sty = none by rw [Tree.sty, if_neg hb])
      clear hb
      go_enter Try.func42, Try.ntmps42
      go_wp2
      go_ret2
      rw [HR.out]
      exact sPost_none ((Below.refl _ _).alloc (Nat.le_refl _) _)
  | node ps b cap A hp hl hc hS hA hB hps ih =>
    intro w hk hw
    have he : (ByteArray.empty.toList == [98]) = false := by rw [empty_toList]; rfl
    have hmc : ps.length ≤ 9223372036854775807 := by unfold maxLen at hc; omega
    by_cases h3 : ps.length = 3
    · obtain ⟨q, x, y, rfl⟩ : ∃ q x y, ps = [q, x, y] := by
        match ps, h3 with
        | [q, x, y], _ => exact ⟨q, x, y, rfl⟩
      have HX := hid (ih 1 x rfl)
      have HY := hid (ih 2 y rfl)
      have HBOX := hid (fun W hb => box3 (x := .string ByteArray.empty) (y := .slice (some ⟨b, 0, none⟩) 3 cap) (T := 55) hk hw (fun i hi => hA i hi) (fun i hi => hB i hi) W hb)
      have HQ := hid (hps 0 q rfl).text
      have W1 := hid (show ∀ Wx, Below (w.alloc (.cells #[.string ByteArray.empty, .slice (some ⟨b, 0, none⟩) 3 cap] 55)).heap.size (w.alloc (.cells #[.string ByteArray.empty, .slice (some ⟨b, 0, none⟩) 3 cap] 55)) Wx → Below (w.heap.size + 1) (w.alloc (.cells #[.string ByteArray.empty, .slice (some ⟨b, 0, none⟩) 3 cap] 55)) Wx from fun Wx h => by simpa using h)
      obtain ⟨⟨o1, o2⟩, ⟨o3, o4, o5, o6, o7, o8⟩, o9, o10, o11⟩ := HBOX.out _ (Below.refl _ _)
      have KX := hid o9
      obtain ⟨hd, hde⟩ : ∃ hd, hd = (A 0).a := ⟨_, rfl⟩
      have HDE := hid hde
      rw [← hde] at HBOX o3
      clear o9 o11 hps hA hB hk h3 hp hl ih hmc hde
      cases hsx : x.sty with
      | none =>
        have HR := hid (show (Tree.node [q, x, y]).sty = none from sty_bad1 hsx)
        have HSX := hid hsx
        cases hsy : y.sty with
        | none =>
          have HSY := hid hsy
          clear hsx hsy
          go_enter Try.func42, Try.ntmps42
          go_wp2_with (first | (have _ := HB1; go_at_call 42; refine (HY.out _ HC1.out (by omega)).mono ?_; rintro e w3 hp; rw [HSY.out] at hp; obtain ⟨rfl, hb3⟩ := hp.none; clear hp) | (go_at_call 42; refine (HX.out _ KX.out (by simp; omega)).mono ?_; rintro e w2 hp; rw [HSX.out] at hp; obtain ⟨rfl, hb2⟩ := hp.none; clear hp; have hw2 := W1.out w2 hb2; obtain ⟨⟨c1, c2⟩, ⟨c3, c4, c5, c6, c7, c8⟩, c9, c10, c11⟩ := HBOX.out w2 hw2; have HC1 := hid c9; have HB1 := hid c11; have HB2 := hid hb2; clear c9 c11 hw2 hb2))
          go_ret2
          rw [HR.out]
          exact sPost_none (HB1.out.trans (hb3.mono (by omega)))
        | some a =>
          have HSY := hid hsy
          clear hsx hsy
          go_enter Try.func42, Try.ntmps42
          go_wp2_with (first | (have _ := HB1; go_at_call 42; refine (HY.out _ HC1.out (by omega)).mono ?_; rintro e w3 hp; rw [HSY.out] at hp; obtain ⟨a2, rfl, hb3, hn2⟩ := hp.some; clear hp) | (go_at_call 42; refine (HX.out _ KX.out (by simp; omega)).mono ?_; rintro e w2 hp; rw [HSX.out] at hp; obtain ⟨rfl, hb2⟩ := hp.none; clear hp; have hw2 := W1.out w2 hb2; obtain ⟨⟨c1, c2⟩, ⟨c3, c4, c5, c6, c7, c8⟩, c9, c10, c11⟩ := HBOX.out w2 hw2; have HC1 := hid c9; have HB1 := hid c11; have HB2 := hid hb2; clear c9 c11 hw2 hb2))
          go_ret2
          rw [HR.out]
          exact sPost_none (HB1.out.trans (hb3.mono (by omega)))
      | some a =>
        have HSX := hid hsx
        cases hsy : y.sty with
        | none =>
          have HR := hid (show (Tree.node [q, x, y]).sty = none from sty_bad2 hsy)
          have HSY := hid hsy
          clear hsx hsy
          go_enter Try.func42, Try.ntmps42
          go_wp2_with (first | (have _ := HB1; go_at_call 42; refine (HY.out _ HC1.out (by omega)).mono ?_; rintro e w3 hp; rw [HSY.out] at hp; obtain ⟨rfl, hb3⟩ := hp.none; clear hp) | (go_at_call 42; refine (HX.out _ KX.out (by simp; omega)).mono ?_; rintro e w2 hp; rw [HSX.out] at hp; obtain ⟨a1, rfl, hb2, hn1⟩ := hp.some; clear hp; have hw2 := W1.out w2 hb2; obtain ⟨⟨c1, c2⟩, ⟨c3, c4, c5, c6, c7, c8⟩, c9, c10, c11⟩ := HBOX.out w2 hw2; have HC1 := hid c9; have HB1 := hid c11; have HB2 := hid hb2; clear c9 c11 hw2 hb2; have HN1 := hid hn1; clear hn1))
          go_ret2
          rw [HR.out]
          exact sPost_none (HB1.out.trans (hb3.mono (by omega)))
        | some c =>
          have HSY := hid hsy
          have HR := hid (sty_three (h := q) hsx hsy)
          have HQE := hid (show hd = q.text by rw [HDE.out, HQ.out])
          clear hsx hsy
          cases e0 : hd.toList == [62] with
          | true =>
            have HR2 := hid (show (Tree.node [q, x, y]).sty = some (.fn a c) by rw [HR.out, ← HQE.out, if_pos (by simpa using e0)])
            have E0 := hid (show hd.toList = [62] by simpa using e0)
            go_enter Try.func42, Try.ntmps42
            go_wp2_with (first | (have _ := HB1; go_at_call 42; refine (HY.out _ HC1.out (by omega)).mono ?_; rintro e w3 hp; rw [HSY.out] at hp; obtain ⟨a2, rfl, hb3, hn2⟩ := hp.some; clear hp) | (go_at_call 42; refine (HX.out _ KX.out (by simp; omega)).mono ?_; rintro e w2 hp; rw [HSX.out] at hp; obtain ⟨a1, rfl, hb2, hn1⟩ := hp.some; clear hp; have hw2 := W1.out w2 hb2; obtain ⟨⟨c1, c2⟩, ⟨c3, c4, c5, c6, c7, c8⟩, c9, c10, c11⟩ := HBOX.out w2 hw2; have HC1 := hid c9; have HB1 := hid c11; have HB2 := hid hb2; clear c9 c11 hw2 hb2; have HN1 := hid hn1; clear hn1))
            go_ret2
            rw [HR2.out]
            obtain ⟨r1, r2, r3⟩ := sNode (((Below.refl w.heap.size w).alloc (Nat.le_refl _) _)) HN1.out HB2.out hn2 hb3 hd
            exact sPost_some r1 (r2 E0.out)
          | false =>
            cases e1 : hd.toList == [42] with
            | true =>
              have E0 := hid (show hd.toList = [42] by simpa using e1)
              have HR2 := hid (show (Tree.node [q, x, y]).sty = some (.pair a c) by rw [HR.out, ← HQE.out, if_neg (by rw [E0.out]; decide), if_pos E0.out])
              go_enter Try.func42, Try.ntmps42
              go_wp2_with (first | (have _ := HB1; go_at_call 42; refine (HY.out _ HC1.out (by omega)).mono ?_; rintro e w3 hp; rw [HSY.out] at hp; obtain ⟨a2, rfl, hb3, hn2⟩ := hp.some; clear hp) | (go_at_call 42; refine (HX.out _ KX.out (by simp; omega)).mono ?_; rintro e w2 hp; rw [HSX.out] at hp; obtain ⟨a1, rfl, hb2, hn1⟩ := hp.some; clear hp; have hw2 := W1.out w2 hb2; obtain ⟨⟨c1, c2⟩, ⟨c3, c4, c5, c6, c7, c8⟩, c9, c10, c11⟩ := HBOX.out w2 hw2; have HC1 := hid c9; have HB1 := hid c11; have HB2 := hid hb2; clear c9 c11 hw2 hb2; have HN1 := hid hn1; clear hn1))
              go_ret2
              rw [HR2.out]
              obtain ⟨r1, r2, r3⟩ := sNode (((Below.refl w.heap.size w).alloc (Nat.le_refl _) _)) HN1.out HB2.out hn2 hb3 hd
              exact sPost_some r1 (r3 E0.out)
            | false =>
              have HR2 := hid (show (Tree.node [q, x, y]).sty = none by rw [HR.out, ← HQE.out, if_neg (by simpa using e0), if_neg (by simpa using e1)])
              go_enter Try.func42, Try.ntmps42
              go_wp2_with (first | (have _ := HB1; go_at_call 42; refine (HY.out _ HC1.out (by omega)).mono ?_; rintro e w3 hp; rw [HSY.out] at hp; obtain ⟨a2, rfl, hb3, hn2⟩ := hp.some; clear hp) | (go_at_call 42; refine (HX.out _ KX.out (by simp; omega)).mono ?_; rintro e w2 hp; rw [HSX.out] at hp; obtain ⟨a1, rfl, hb2, hn1⟩ := hp.some; clear hp; have hw2 := W1.out w2 hb2; obtain ⟨⟨c1, c2⟩, ⟨c3, c4, c5, c6, c7, c8⟩, c9, c10, c11⟩ := HBOX.out w2 hw2; have HC1 := hid c9; have HB1 := hid c11; have HB2 := hid hb2; clear c9 c11 hw2 hb2; have HN1 := hid hn1; clear hn1))
              go_ret2
              rw [HR2.out]
              exact sPost_none (HB1.out.trans (hb3.mono (by omega)))
    · have HR := hid (show (Tree.node ps).sty = none from sty_not3 h3)
      obtain ⟨n, hn⟩ : ∃ n, n = ps.length := ⟨_, rfl⟩
      rw [← hn] at hmc h3 ⊢
      have h4 : ((n : Int) == 3) = false := by simp; omega
      have h5 : ((n : Int) != 3) = true := by simp; omega
      clear hps hA hB hk hp hl ih hn h3
      go_enter Try.func42, Try.ntmps42
      go_wp2
      go_ret2
      rw [HR.out]
      exact sPost_none ((Below.refl _ _).alloc (Nat.le_refl _) _)
end Go.Proofs.Ytlggbhakkhecmaa

namespace Go.Proofs.Ytlggbhakkhecmaa
open Go.RowKit

set_option maxRecDepth 100000 in
set_option maxHeartbeats 2000000 in
theorem limitedSourceType_any {w0 : World} {S : Nat → Prop} {t : Tree} {h : Hd} (ht : TIn w0 S t h) (hwt : t.wt ≤ 12000) (w : World) (hk : Kept w0 w) (hw : w0.heap.size ≤ w.heap.size) :
    Calls Try.prog 31 #[.agg #[.string h.a, .slice h.p h.l h.c]] w (SPost (stLim t) w) := by
  have hsz := size_le_wt t
  have HD := hid (fun W hk hs => atoms_any ht (by omega) W hk hs)
  have HE := hid (fun W hk hs => sourceTypeOf_any ht W hk hs)
  have HK := hid hk
  clear ht hk
  obtain ⟨pa, pp, pl, pc⟩ := h
  by_cases h12 : t.size ≤ 12
  · have HR := hid (show stLim t = t.sty by rw [stLim, if_pos h12])
    cases hty : t.sty with
    | none =>
      have HT := hid hty
      clear hty
      go_enter Try.func31, Try.ntmps31
      go_wp2_with (first | (go_at_call 41; refine (HD.out _ (HK.out.alloc hw _) (by simp; omega)).mono ?_; rintro e w2 ⟨rfl, hb2⟩; have k2 := cells_of_pair (block_below (heap_new w (.cells #[.string pa, .slice pp pl pc] 55) _ rfl) hb2 (by simp))) | (go_at_call 42; refine (HE.out _ ((HK.out.alloc hw _).below hb2 (by simp; omega)) (by have := hb2.size; simp at this; omega)).mono ?_; rintro e w3 hp; rw [HT.out] at hp; obtain ⟨rfl, hb3⟩ := hp.none; clear hp))
      go_ret2
      rw [HR.out, HT.out]
      have s2 := hb2.size
      simp at s2
      have hbw : Below w.heap.size w w3 := ((Below.refl _ _).alloc (Nat.le_refl _) _).trans ((hb2.mono (by simp)).trans (hb3.mono (by omega)))
      exact sPost_none hbw
    | some tp =>
      have HT := hid hty
      clear hty
      go_enter Try.func31, Try.ntmps31
      go_wp2_with (first | (go_at_call 41; refine (HD.out _ (HK.out.alloc hw _) (by simp; omega)).mono ?_; rintro e w2 ⟨rfl, hb2⟩; have k2 := cells_of_pair (block_below (heap_new w (.cells #[.string pa, .slice pp pl pc] 55) _ rfl) hb2 (by simp))) | (go_at_call 42; refine (HE.out _ ((HK.out.alloc hw _).below hb2 (by simp; omega)) (by have := hb2.size; simp at this; omega)).mono ?_; rintro e w3 hp; rw [HT.out] at hp; obtain ⟨a1, rfl, hb3, hn1⟩ := hp.some; clear hp))
      go_ret2
      rw [HR.out, HT.out]
      have s2 := hb2.size
      simp at s2
      have hbw : Below w.heap.size w w3 := ((Below.refl _ _).alloc (Nat.le_refl _) _).trans ((hb2.mono (by simp)).trans (hb3.mono (by omega)))
      exact sPost_some hbw (hn1.wide (fun k hk => by omega))
  · have HR := hid (show stLim t = none by rw [stLim, if_neg h12])
    have h13 : 12 < t.size := by omega
    clear h12
    go_enter Try.func31, Try.ntmps31
    go_wp2_with (go_at_call 41; refine (HD.out _ (HK.out.alloc hw _) (by simp; omega)).mono ?_; rintro e w2 ⟨rfl, hb2⟩)
    go_ret2
    rw [HR.out]
    exact sPost_none (((Below.refl _ _).alloc (by omega) _).trans (hb2.mono (by simp)))
end Go.Proofs.Ytlggbhakkhecmaa

namespace Go.Proofs.Ytlggbhakkhecmaa
open Go.RowKit

set_option maxRecDepth 100000 in
set_option maxHeartbeats 2000000 in
theorem readSourceType_any (s : ByteArray) (hs : s.size ≤ 400000000) (w : World) : Calls Try.prog 17 #[.string s] w (SPost (readSty s) w) := by
  have HC := hid (fun W => readPhrase_any s hs W)
  cases hp : parse s with
  | none =>
    have HP := hid hp
    have HR := hid (show readSty s = none by rw [readSty, hp])
    clear hp
    go_enter Try.func17, Try.ntmps17
    go_wp2_with (go_at_call 30; refine (HC.out _).mono ?_; rintro e w1 hp; rw [HP.out] at hp; obtain ⟨pa, pp, pl, pc, rfl, hpl, hb1⟩ := hp.none; clear hp)
    go_ret2
    rw [HR.out]
    exact sPost_none (hb1.alloc hb1.size _)
  | some t =>
    have hwt := parse_wt hp
    have HP := hid hp
    have HR := hid (show readSty s = stLim t by rw [readSty, hp]; rfl)
    clear hp
    cases hty : stLim t with
    | none =>
      have HT := hid hty
      clear hty
      go_enter Try.func17, Try.ntmps17
      go_wp2_with (first | (go_at_call 30; refine (HC.out _).mono ?_; rintro e w1 hp; rw [HP.out] at hp; obtain ⟨pa, pp, pl, pc, rfl, hb1, ht⟩ := hp.some; clear hp; have HD := hid (fun W hk hs => limitedSourceType_any ht hwt W hk hs); clear ht) | (go_at_call 31; refine (HD.out _ ((Kept.refl _).alloc (Nat.le_refl _) _) (by simp)).mono ?_; rintro e w3 hp; rw [HT.out] at hp; obtain ⟨rfl, hb3⟩ := hp.none; clear hp))
      go_ret2
      rw [HR.out, HT.out]
      have s1 := hb1.size
      have hbw : Below w.heap.size w w3 := hb1.trans (((Below.refl _ _).alloc (by omega) _).trans (hb3.mono (by simp; omega)))
      exact sPost_none hbw
    | some tp =>
      have HT := hid hty
      clear hty
      go_enter Try.func17, Try.ntmps17
      go_wp2_with (first | (go_at_call 30; refine (HC.out _).mono ?_; rintro e w1 hp; rw [HP.out] at hp; obtain ⟨pa, pp, pl, pc, rfl, hb1, ht⟩ := hp.some; clear hp; have HD := hid (fun W hk hs => limitedSourceType_any ht hwt W hk hs); clear ht) | (go_at_call 31; refine (HD.out _ ((Kept.refl _).alloc (Nat.le_refl _) _) (by simp)).mono ?_; rintro e w3 hp; rw [HT.out] at hp; obtain ⟨a1, rfl, hb3, hn1⟩ := hp.some; clear hp))
      go_ret2
      rw [HR.out, HT.out]
      have s1 := hb1.size
      have hbw : Below w.heap.size w w3 := hb1.trans (((Below.refl _ _).alloc (by omega) _).trans (hb3.mono (by simp; omega)))
      exact sPost_some hbw (hn1.wide (fun k hk => by simp at hk; omega))
end Go.Proofs.Ytlggbhakkhecmaa

namespace Go.Proofs.Ytlggbhakkhecmaa
open Go.RowKit

theorem sty_atom_b (s : ByteArray) : (Tree.atom s).sty.isSome = (s.toList == [98]) := by
  rw [Tree.sty]
  by_cases h : s.toList = [98]
  · rw [if_pos h]; simp [h]
  · rw [if_neg h]; simp [h]
set_option maxRecDepth 100000 in
set_option maxHeartbeats 2000000 in
theorem l7Source_any {w0 : World} {S : Nat → Prop} {t : Tree} {h : Hd} (ht : TIn w0 S t h) : ∀ w, Kept w0 w → w0.heap.size ≤ w.heap.size →
    Calls Try.prog 34 #[.agg #[.string h.a, .slice h.p h.l h.c]] w fun e w' => e = .returned (.bool t.sty.isSome) ∧ Below w.heap.size w w' := by
  induction ht with
  | atom s hne hm =>
    intro w _ _
    have he := isEmpty_not s hne
    have HE := hid (sty_atom_b s)
    go_enter Try.func34, Try.ntmps34
    go_wp2
    go_ret
    exact ⟨ret_bool HE.out.symm, (Below.refl _ _).alloc (by simp) _⟩
  | node ps b cap A hp hl hc hS hA hB hps ih =>
    intro w hk hw
    have HT := hid (fun W hk => l1Head_any (TIn.node ps b cap A hp hl hc hS hA hB hps) W hk)
    have hmc : ps.length ≤ 9223372036854775807 := by unfold maxLen at hc; omega
    have hin : 1 ≤ ps.length := hp
    by_cases h3 : ps.length = 3
    · obtain ⟨q, x, y, rfl⟩ : ∃ q x y, ps = [q, x, y] := by
        match ps, h3 with
        | [q, x, y], _ => exact ⟨q, x, y, rfl⟩
      have hx := ih 1 x rfl
      have hy := ih 2 y rfl
      have HX := hid hx
      have HY := hid hy
      have HBOX := hid (fun W hb => box3 (x := .string ByteArray.empty) (y := .slice (some ⟨b, 0, none⟩) 3 cap) (T := 38) hk hw (fun i hi => hA i hi) (fun i hi => hB i hi) W hb)
      have HK := hid hk
      have hhd : (Tree.node [q, x, y]).headAtom = q.text := rfl
      rw [hhd] at HT
      obtain ⟨hd, hhde⟩ : ∃ hd, hd = q.text := ⟨_, rfl⟩
      rw [← hhde] at HT
      have HHD := hid hhde
      clear hx hy ih hps hA hB hk hhd hhde hin hmc h3 hp hl
      have W1 : ∀ Wx, Below (w.alloc (.cells #[.string ByteArray.empty, .slice (some ⟨b, 0, none⟩) 3 cap] 38)).heap.size (w.alloc (.cells #[.string ByteArray.empty, .slice (some ⟨b, 0, none⟩) 3 cap] 38)) Wx → Below (w.heap.size + 1) (w.alloc (.cells #[.string ByteArray.empty, .slice (some ⟨b, 0, none⟩) 3 cap] 38)) Wx := fun Wx h => by simpa using h
      have W1 := hid W1
      have hk1 := hid (fun o => hk_alloc (HK.out) hw o)
      obtain ⟨bx, hbx⟩ : ∃ bx, bx = x.sty.isSome := ⟨_, rfl⟩
      obtain ⟨bY, hby⟩ : ∃ bY, bY = y.sty.isSome := ⟨_, rfl⟩
      rw [← hbx] at HX
      rw [← hby] at HY
      have HXE := hid hbx
      have HYE := hid hby
      clear hbx hby
      have HR1 := hid (fun (e : bx = false) => (show (Tree.node [q, x, y]).sty.isSome = false by
        rw [HXE.out] at e; rw [sty_bad1 (by simpa using e)]; rfl))
      have HR2 := hid (fun (e : bx = true) (e2 : hd.toList = [62] ∨ hd.toList = [42]) => (show (Tree.node [q, x, y]).sty.isSome = bY by
        rw [HXE.out] at e
        obtain ⟨a, ha⟩ := Option.isSome_iff_exists.1 e
        rw [HYE.out]
        cases hy2 : y.sty with
        | none => rw [sty_bad2 hy2]
        | some c =>
          rw [sty_three ha hy2, ← HHD.out]
          rcases e2 with e2 | e2
          · rw [if_pos e2]; rfl
          · rw [if_neg (by rw [e2]; decide), if_pos e2]; rfl))
      cases e0 : hd.toList == [62] with
      | true =>
        have E0 := hid (show hd.toList = [62] by simpa using e0)
        cases bx with
        | false =>
          go_enter Try.func34, Try.ntmps34
          go_wp2_with (first | (have _ := HC1; go_at_call 34; refine (HX.out _ HC1.out (by omega)).mono ?_; rintro e w2 ⟨rfl, hb2⟩) | (go_at_call 45; refine (HT.out _ (hk1.out _)).mono ?_; rintro e w1 ⟨rfl, hb1⟩; have hc1 := HBOX.out w1 (W1.out w1 hb1); obtain ⟨⟨c1, c2⟩, ⟨c3, c4, c5, c6, c7, c8⟩, c9, c10, c11⟩ := hc1; have HC1 := hid c9; have HB1 := hid c11; clear c9 c11 hb1))
          go_ret
          exact ⟨ret_bool (HR1.out (by simp)).symm, HB1.out.trans (hb2.mono (by omega))⟩
        | true =>
          go_enter Try.func34, Try.ntmps34
          go_wp2_with (first | (have _ := HB2; go_at_call 34; refine (HY.out _ HC2.out (by omega)).mono ?_; rintro e w3 ⟨rfl, hb3⟩) | (have _ := HC1; go_at_call 34; refine (HX.out _ HC1.out (by omega)).mono ?_; rintro e w2 ⟨rfl, hb2⟩; have s2 := hb2.size; have HC2 := hid (HC1.out.below hb2 (by omega)); have hc2 := HBOX.out w2 (HW1.out.trans (hb2.mono (by omega))); obtain ⟨⟨d1, d2⟩, ⟨d3, d4, d5, d6, d7, d8⟩, d9, d10, d11⟩ := hc2; have HB2 := hid d11; clear d9 d11 hb2) | (go_at_call 45; refine (HT.out _ (hk1.out _)).mono ?_; rintro e w1 ⟨rfl, hb1⟩; have HW1 := hid (W1.out w1 hb1); have hc1 := HBOX.out w1 (HW1.out); obtain ⟨⟨c1, c2⟩, ⟨c3, c4, c5, c6, c7, c8⟩, c9, c10, c11⟩ := hc1; have HC1 := hid c9; have HB1 := hid c11; clear c9 c11 hb1))
          go_ret
          exact ⟨ret_bool (HR2.out (by simp) (Or.inl E0.out)).symm, HB2.out.trans (hb3.mono (by omega))⟩
      | false =>
        cases e1 : hd.toList == [42] with
        | true =>
          have E0 := hid (show hd.toList = [42] by simpa using e1)
          cases bx with
          | false =>
            go_enter Try.func34, Try.ntmps34
            go_wp2_with (first | (have _ := HC1; go_at_call 34; refine (HX.out _ HC1.out (by omega)).mono ?_; rintro e w2 ⟨rfl, hb2⟩) | (go_at_call 45; refine (HT.out _ (hk1.out _)).mono ?_; rintro e w1 ⟨rfl, hb1⟩; have hc1 := HBOX.out w1 (W1.out w1 hb1); obtain ⟨⟨c1, c2⟩, ⟨c3, c4, c5, c6, c7, c8⟩, c9, c10, c11⟩ := hc1; have HC1 := hid c9; have HB1 := hid c11; clear c9 c11 hb1))
            go_ret
            exact ⟨ret_bool (HR1.out (by simp)).symm, HB1.out.trans (hb2.mono (by omega))⟩
          | true =>
            go_enter Try.func34, Try.ntmps34
            go_wp2_with (first | (have _ := HB2; go_at_call 34; refine (HY.out _ HC2.out (by omega)).mono ?_; rintro e w3 ⟨rfl, hb3⟩) | (have _ := HC1; go_at_call 34; refine (HX.out _ HC1.out (by omega)).mono ?_; rintro e w2 ⟨rfl, hb2⟩; have s2 := hb2.size; have HC2 := hid (HC1.out.below hb2 (by omega)); have hc2 := HBOX.out w2 (HW1.out.trans (hb2.mono (by omega))); obtain ⟨⟨d1, d2⟩, ⟨d3, d4, d5, d6, d7, d8⟩, d9, d10, d11⟩ := hc2; have HB2 := hid d11; clear d9 d11 hb2) | (go_at_call 45; refine (HT.out _ (hk1.out _)).mono ?_; rintro e w1 ⟨rfl, hb1⟩; have HW1 := hid (W1.out w1 hb1); have hc1 := HBOX.out w1 (HW1.out); obtain ⟨⟨c1, c2⟩, ⟨c3, c4, c5, c6, c7, c8⟩, c9, c10, c11⟩ := hc1; have HC1 := hid c9; have HB1 := hid c11; clear c9 c11 hb1))
            go_ret
            exact ⟨ret_bool (HR2.out (by simp) (Or.inr E0.out)).symm, HB2.out.trans (hb3.mono (by omega))⟩
        | false =>
          have HR := hid (show (Tree.node [q, x, y]).sty.isSome = false by
            rw [sty_bad0 (by rw [← HHD.out]; simpa using e0) (by rw [← HHD.out]; simpa using e1)]; rfl)
          go_enter Try.func34, Try.ntmps34
          go_wp2_with ((go_at_call 45; refine (HT.out _ (hk1.out _)).mono ?_; rintro e w1 ⟨rfl, hb1⟩; have hc1 := HBOX.out w1 (W1.out w1 hb1); obtain ⟨⟨c1, c2⟩, ⟨c3, c4, c5, c6, c7, c8⟩, c9, c10, c11⟩ := hc1; have HC1 := hid c9; have HB1 := hid c11; clear c9 c11 hb1))
          go_ret
          exact ⟨ret_bool HR.out.symm, HB1.out⟩
    · have HR := hid (show (Tree.node ps).sty.isSome = false by rw [sty_not3 h3]; rfl)
      obtain ⟨n, hn⟩ : ∃ n, n = ps.length := ⟨_, rfl⟩
      rw [← hn] at hin h3 hmc ⊢
      have h4 : ((n : Int) == 3) = false := by simp; omega
      have HB1 := hid (fun W hb => (cells_of_pair (block_below (heap_new w (.cells #[.string ByteArray.empty, .slice (some ⟨b, 0, none⟩) n cap] 38) w.heap.size rfl) (B := w.heap.size + 1) (w' := W) hb (by omega))))
      have HK := hid (fun o => hk_alloc hk hw o)
      obtain ⟨hd, hhde⟩ : ∃ hd, hd = (Tree.node ps).headAtom := ⟨_, rfl⟩
      rw [← hhde, ← hn] at HT
      clear hhde ih hps hA hB hk hp hl h3
      have W1 : ∀ Wx, Below (w.alloc (.cells #[.string ByteArray.empty, .slice (some ⟨b, 0, none⟩) n cap] 38)).heap.size (w.alloc (.cells #[.string ByteArray.empty, .slice (some ⟨b, 0, none⟩) n cap] 38)) Wx → Below (w.heap.size + 1) (w.alloc (.cells #[.string ByteArray.empty, .slice (some ⟨b, 0, none⟩) n cap] 38)) Wx := fun Wx h => by simpa using h
      have W1 := hid W1
      clear hn
      cases e0 : hd.toList == [62] with
      | true =>
        go_enter Try.func34, Try.ntmps34
        go_wp2_with (go_at_call 45; refine (HT.out _ (HK.out _)).mono ?_; rintro e w1 ⟨rfl, hb1⟩; have hc1 := HB1.out w1 (W1.out w1 hb1); obtain ⟨c1, c2, -, -⟩ := hc1)
        go_ret
        exact ⟨ret_bool HR.out.symm, ((Below.refl _ _).alloc (Nat.le_refl _) _).trans (hb1.mono (by simp))⟩
      | false =>
        cases e1 : hd.toList == [42] with
        | true =>
          go_enter Try.func34, Try.ntmps34
          go_wp2_with (go_at_call 45; refine (HT.out _ (HK.out _)).mono ?_; rintro e w1 ⟨rfl, hb1⟩; have hc1 := HB1.out w1 (W1.out w1 hb1); obtain ⟨c1, c2, -, -⟩ := hc1)
          go_ret
          exact ⟨ret_bool HR.out.symm, ((Below.refl _ _).alloc (Nat.le_refl _) _).trans (hb1.mono (by simp))⟩
        | false =>
          go_enter Try.func34, Try.ntmps34
          go_wp2_with (go_at_call 45; refine (HT.out _ (HK.out _)).mono ?_; rintro e w1 ⟨rfl, hb1⟩; have hc1 := HB1.out w1 (W1.out w1 hb1); obtain ⟨c1, c2, -, -⟩ := hc1)
          go_ret
          exact ⟨ret_bool HR.out.symm, ((Below.refl _ _).alloc (Nat.le_refl _) _).trans (hb1.mono (by simp))⟩
end Go.Proofs.Ytlggbhakkhecmaa

namespace Go.Proofs.Ytlggbhakkhecmaa
open Go.RowKit

theorem styPost_close {s : ByteArray} {w w' : World} {t : Tree} {a : ByteArray} {p : Option Addr} {l c : Nat} (hp : parse s = some t) (hk : t.sty.isSome = true)
    (ht : TIn w' (fun b => w.heap.size ≤ b) t ⟨a, p, l, c⟩) (hb : Below w.heap.size w w') : TreePost (styTree s) w (.returned (.tuple #[.agg #[.string a, .slice p l c], .bool (decide ((t.size : Int) ≤ 12))])) w' := by
  by_cases h : t.size ≤ 12
  · have e : styTree s = some t := by rw [styTree, hp]; simp only; rw [if_pos ⟨hk, h⟩]
    have d : decide ((t.size : Int) ≤ 12) = true := decide_eq_true (by omega)
    rw [e, d]; exact treePost_some ht hb
  · have e : styTree s = none := by rw [styTree, hp]; simp only; rw [if_neg (fun x => h x.2)]
    have d : decide ((t.size : Int) ≤ 12) = false := decide_eq_false (by omega)
    rw [e, d]; exact treePost_none ht.len hb

set_option maxRecDepth 100000 in
set_option maxHeartbeats 2000000 in
theorem l7Typed_yes (s : ByteArray) (hs : s.size ≤ 400000000) (w : World) (t : Tree) (hp : parse s = some t) (hk : t.sty.isSome = true) : Calls Try.prog 20 #[.string s] w (TreePost (styTree s) w) := by
  have HC := hid (fun W => l1Parse_any s hs W)
  have HP := hid hp
  have hwt := parse_wt hp
  have hsz := size_le_wt t
  clear hp
  go_enter Try.func20, Try.ntmps20
  go_wp2_with (go_at_call 33; refine (HC.out _).mono ?_; rintro e w1 hp; rw [HP.out] at hp; obtain ⟨pa, pp, pl, pc, rfl, hb1, ht⟩ := hp.some; clear hp)
  have q0 := block_below (heap_new w (.cells #[.string ByteArray.empty, .slice none 0 0] 38) _ rfl) hb1 (by simp)
  have hlt := lt_of_block q0
  have e0 : ByteArray.empty = ({ data := #[] } : ByteArray) := rfl
  rw [e0] at q0
  clear e0
  obtain ⟨W, hW⟩ : ∃ W, W = w1.alloc (.cells #[.string pa, .slice pp pl pc] 38) := ⟨_, rfl⟩
  have kW : Kept w1 W := hW ▸ (Kept.refl w1).alloc (Nat.le_refl _) _
  have sW : w1.heap.size + 1 = W.heap.size := by rw [hW]; simp
  have c0 := cells_of_pair (pair_alloc q0 (.cells #[.string pa, .slice pp pl pc] 38))
  have c1 := cells_of_pair (heap_new w1 (.cells #[.string pa, .slice pp pl pc] 38) _ rfl)
  rw [← hW] at c0 c1 ⊢
  have SW := hid sW
  have HRES := hid (hW ▸ pair_alloc q0 (.cells #[.string pa, .slice pp pl pc] 38))
  have ht2 : TIn w1 (fun b => w.heap.size + 1 ≤ b) t ⟨pa, pp, pl, pc⟩ := ht.keep (fun _ _ _ => rfl) (fun k hk _ => by simpa using hk)
  have hsz2 : t.size ≤ 12000 := by omega
  have HC1 := hid (fun Wx (hb : But w.heap.size W Wx) => hk ▸ l7Source_any (ht2.keep (w' := Wx) (S' := fun _ => True) (fun k hk hl => (hb.block k (by omega) (by omega)).trans (kW k hl)) (fun _ _ _ => trivial)) Wx (Kept.refl _) (Nat.le_refl _))
  have HC2 := hid (fun Wx (hb : But w.heap.size W Wx) => l1Size_any (ht2.keep (w' := Wx) (S' := fun _ => True) (fun k hk hl => (hb.block k (by omega) (by omega)).trans (kW k hl)) (fun _ _ _ => trivial)) hsz2 Wx (Kept.refl _) (Nat.le_refl _))
  have HWE := hid hW
  have HB1 := hid hb1
  have HT := hid ht
  have HK := hid hk
  clear hW sW kW hb1 q0 ht ht2
  have hl1 : w1.heap.size < W.heap.size := by have := SW.out; omega
  have hl0 : w.heap.size < W.heap.size := by omega
  go_region_with (first | (go_at_call 34; refine (HC1.out _ ?_).mono ?_; exact But.start HRES.out; rintro e w2 ⟨rfl, hb2⟩; have hbW := Below.thenH (Below.refl _ W).drew hb2; have kk := keepH c1 c0 hl1 hl0 hbW) | (go_at_call 35; refine (HC2.out _ ?_).mono ?_; exact But.call (But.start HRES.out) hl0 hb2; rintro e w3 ⟨rfl, hb3⟩; have hbW2 := Below.thenH hbW hb3; have kk2 := keepH c1 c0 hl1 hl0 hbW2))
  all_goals
    go_wp2_with fail
    refine bodyPost_ret (v := .tuple #[.agg #[.string pa, .slice pp pl pc], .bool (decide ((t.size : Int) ≤ 12))]) (by simp [results, Try.results20, go_sem, kk2.2.2.1, kk2.2.2.2.1]) rfl ?_
    go_light
    have hcl := tree_close HB1.out HT.out (HWE.out ▸ hbW2) (.string pa) (.slice pp pl pc)
    exact styPost_close HP.out HK.out hcl.1 hcl.2

set_option maxRecDepth 100000 in
set_option maxHeartbeats 2000000 in
theorem l7Typed_no (s : ByteArray) (hs : s.size ≤ 400000000) (w : World) (t : Tree) (hp : parse s = some t) (hk : t.sty.isSome = false) : Calls Try.prog 20 #[.string s] w (TreePost none w) := by
  have HC := hid (fun W => l1Parse_any s hs W)
  have HP := hid hp
  have hwt := parse_wt hp
  clear hp
  go_enter Try.func20, Try.ntmps20
  go_wp2_with (go_at_call 33; refine (HC.out _).mono ?_; rintro e w1 hp; rw [HP.out] at hp; obtain ⟨pa, pp, pl, pc, rfl, hb1, ht⟩ := hp.some; clear hp)
  have q0 := block_below (heap_new w (.cells #[.string ByteArray.empty, .slice none 0 0] 38) _ rfl) hb1 (by simp)
  have hlt := lt_of_block q0
  have e0 : ByteArray.empty = ({ data := #[] } : ByteArray) := rfl
  rw [e0] at q0
  clear e0
  obtain ⟨W, hW⟩ : ∃ W, W = w1.alloc (.cells #[.string pa, .slice pp pl pc] 38) := ⟨_, rfl⟩
  have kW : Kept w1 W := hW ▸ (Kept.refl w1).alloc (Nat.le_refl _) _
  have sW : w1.heap.size + 1 = W.heap.size := by rw [hW]; simp
  have c0 := cells_of_pair (pair_alloc q0 (.cells #[.string pa, .slice pp pl pc] 38))
  have c1 := cells_of_pair (heap_new w1 (.cells #[.string pa, .slice pp pl pc] 38) _ rfl)
  rw [← hW] at c0 c1 ⊢
  have SW := hid sW
  have HRES := hid (hW ▸ pair_alloc q0 (.cells #[.string pa, .slice pp pl pc] 38))
  have ht2 : TIn w1 (fun b => w.heap.size + 1 ≤ b) t ⟨pa, pp, pl, pc⟩ := ht.keep (fun _ _ _ => rfl) (fun k hk _ => by simpa using hk)
  have HC1 := hid (fun Wx (hb : But w.heap.size W Wx) => hk ▸ l7Source_any (ht2.keep (w' := Wx) (S' := fun _ => True) (fun k hk hl => (hb.block k (by omega) (by omega)).trans (kW k hl)) (fun _ _ _ => trivial)) Wx (Kept.refl _) (Nat.le_refl _))
  have HWE := hid hW
  have HB1 := hid hb1
  have HT := hid ht
  clear hW sW kW hb1 q0 ht ht2
  have hl1 : w1.heap.size < W.heap.size := by have := SW.out; omega
  have hl0 : w.heap.size < W.heap.size := by omega
  go_region_with (first | (go_at_call 34; refine (HC1.out _ ?_).mono ?_; exact But.start HRES.out; rintro e w2 ⟨rfl, hb2⟩; have hbW := Below.thenH (Below.refl _ W).drew hb2; have kk := keepH c1 c0 hl1 hl0 hbW))
  all_goals
    go_wp2_with fail
    refine bodyPost_ret (v := .tuple #[.agg #[.string pa, .slice pp pl pc], .bool false]) (by simp [results, Try.results20, go_sem, kk.2.2.1, kk.2.2.2.1]) rfl ?_
    go_light
    have hcl := tree_close HB1.out HT.out (HWE.out ▸ hbW) (.string pa) (.slice pp pl pc)
    exact treePost_none HT.out.len hcl.2

set_option maxRecDepth 100000 in
set_option maxHeartbeats 2000000 in
theorem l7Typed_none (s : ByteArray) (hs : s.size ≤ 400000000) (w : World) (hp : parse s = none) : Calls Try.prog 20 #[.string s] w (TreePost none w) := by
  have HC := hid (fun W => l1Parse_any s hs W)
  have HP := hid hp
  clear hp
  go_enter Try.func20, Try.ntmps20
  go_wp2_with (go_at_call 33; refine (HC.out _).mono ?_; rintro e w1 hp; rw [HP.out] at hp; obtain ⟨pa, pp, pl, pc, rfl, hpl, hb1⟩ := hp.none; clear hp)
  have q0 := block_below (heap_new w (.cells #[.string ByteArray.empty, .slice none 0 0] 38) _ rfl) hb1 (by simp)
  have hlt := lt_of_block q0
  have e0 : ByteArray.empty = ({ data := #[] } : ByteArray) := rfl
  rw [e0] at q0
  clear e0
  have c0 := cells_of_pair (pair_alloc q0 (.cells #[.string pa, .slice pp pl pc] 38))
  have c1 := cells_of_pair (heap_new w1 (.cells #[.string pa, .slice pp pl pc] 38) _ rfl)
  obtain ⟨W, hW⟩ : ∃ W, W = w1.alloc (.cells #[.string pa, .slice pp pl pc] 38) := ⟨_, rfl⟩
  rw [← hW] at c0 c1 ⊢
  have HWE := hid hW
  have HB1 := hid hb1
  clear q0 hb1 hW
  go_region
  all_goals
    go_wp2_with fail
    refine bodyPost_ret (v := .tuple #[.agg #[.string pa, .slice pp pl pc], .bool false]) (by simp [results, Try.results20, go_sem, c0.1, c0.2.1]) rfl ?_
    go_light
    have hcl := result_below HB1.out (.cells #[.string pa, .slice pp pl pc] 38) (.string pa) (.slice pp pl pc)
    rw [← HWE.out] at hcl
    exact treePost_none hpl (below_same hcl)

/-- THE MODEL's READING OF A TYPE. -/
theorem l7Typed_any (s : ByteArray) (hs : s.size ≤ 400000000) (w : World) : Calls Try.prog 20 #[.string s] w (TreePost (styTree s) w) := by
  cases hp : parse s with
  | none =>
    have e : styTree s = none := by rw [styTree, hp]
    rw [e]; exact l7Typed_none s hs w hp
  | some t =>
    cases hk : t.sty.isSome with
    | false =>
      have e : styTree s = none := by rw [styTree, hp]; simp [hk]
      rw [e]; exact l7Typed_no s hs w t hp hk
    | true => exact l7Typed_yes s hs w t hp hk
end Go.Proofs.Ytlggbhakkhecmaa

namespace Go.Proofs.Ytlggbhakkhecmaa
open Go.RowKit

set_option maxRecDepth 100000 in
set_option maxHeartbeats 2000000 in
theorem l7ByValue_pair {w0 w : World} {b cap : Nat} {A : Nat → Hd} {X Y : ByteArray} (hcap : 3 ≤ cap ∧ cap ≤ maxLen) (hk : Kept w0 w) (hw : w0.heap.size ≤ w.heap.size) (e0 : ((A 0).a.toList == [42]) = true)
    (hA : ∀ i, i < 3 → w0.cell? ⟨b, i * 2, none⟩ = some (.string (A i).a)) (hB : ∀ i, i < 3 → w0.cell? ⟨b, i * 2 + 1, none⟩ = some (.slice (A i).p (A i).l (A i).c))
    (H1 : ∀ W, Kept w0 W → w0.heap.size ≤ W.heap.size → Calls Try.prog 22 #[.agg #[.string (A 1).a, .slice (A 1).p (A 1).l (A 1).c]] W fun e w' => e = .returned (.string X) ∧ Below W.heap.size W w')
    (H2 : ∀ W, Kept w0 W → w0.heap.size ≤ W.heap.size → Calls Try.prog 22 #[.agg #[.string (A 2).a, .slice (A 2).p (A 2).l (A 2).c]] W fun e w' => e = .returned (.string Y) ∧ Below W.heap.size W w')
    (hX : X.size ≤ 8000) (hY : Y.size ≤ 8000) :
    Calls Try.prog 22 #[.agg #[.string ByteArray.empty, .slice (some ⟨b, 0, none⟩) 3 cap]] w fun e w' => e = .returned (.string (((({ data := #[40, 42, 32] } : ByteArray) ++ X) ++ ({ data := #[32] } : ByteArray)) ++ Y ++ ({ data := #[41] } : ByteArray))) ∧ Below w.heap.size w w' := by
  have hmc : cap ≤ 9223372036854775807 := by have := hcap.2; unfold maxLen at this; omega
  have HX := hid H1
  have HY := hid H2
  have HBOX := hid (fun W hb => box3 (x := .string ByteArray.empty) (y := .slice (some ⟨b, 0, none⟩) 3 cap) (T := 38) hk hw hA hB W hb)
  have W1 := hid (show ∀ Wx, Below (w.alloc (.cells #[.string ByteArray.empty, .slice (some ⟨b, 0, none⟩) 3 cap] 38)).heap.size (w.alloc (.cells #[.string ByteArray.empty, .slice (some ⟨b, 0, none⟩) 3 cap] 38)) Wx → Below (w.heap.size + 1) (w.alloc (.cells #[.string ByteArray.empty, .slice (some ⟨b, 0, none⟩) 3 cap] 38)) Wx from fun Wx h => by simpa using h)
  obtain ⟨⟨o1, o2⟩, ⟨o3, o4, o5, o6, o7, o8⟩, o9, o10, o11⟩ := HBOX.out _ (Below.refl _ _)
  have KX := hid o9
  clear o9 o11 hA hB hk H1 H2
  go_enter Try.func22, Try.ntmps22
  go_wp2_with (first | (have _ := HB1; go_at_call 22; refine (HY.out _ HC1.out (by omega)).mono ?_; rintro e w3 ⟨rfl, hb3⟩; obtain ⟨⟨p1, p2⟩, ⟨p3, p4, p5, p6, p7, p8⟩, p9, p10, p11⟩ := HBOX.out w3 (HW2.out.trans (hb3.mono (by omega))); have HB3 := hid p11; clear p9 p11 hb3) | (go_at_call 22; refine (HX.out _ KX.out (by simp; omega)).mono ?_; rintro e w2 ⟨rfl, hb2⟩; have hw2 := W1.out w2 hb2; obtain ⟨⟨c1, c2⟩, ⟨c3, c4, c5, c6, c7, c8⟩, c9, c10, c11⟩ := HBOX.out w2 hw2; have HC1 := hid c9; have HB1 := hid c11; have HW2 := hid hw2; clear c9 c11 hw2 hb2))
  go_ret
  exact ⟨rfl, HB3.out⟩

set_option maxRecDepth 100000 in
set_option maxHeartbeats 2000000 in
theorem l7ByValue_fn {w0 w : World} {b cap : Nat} {A : Nat → Hd} {X Y : ByteArray} (hcap : 3 ≤ cap ∧ cap ≤ maxLen) (hk : Kept w0 w) (hw : w0.heap.size ≤ w.heap.size) (e0 : ((A 0).a.toList == [42]) = false)
    (hA : ∀ i, i < 3 → w0.cell? ⟨b, i * 2, none⟩ = some (.string (A i).a)) (hB : ∀ i, i < 3 → w0.cell? ⟨b, i * 2 + 1, none⟩ = some (.slice (A i).p (A i).l (A i).c))
    (H1 : ∀ W, Kept w0 W → w0.heap.size ≤ W.heap.size → Calls Try.prog 22 #[.agg #[.string (A 1).a, .slice (A 1).p (A 1).l (A 1).c]] W fun e w' => e = .returned (.string X) ∧ Below W.heap.size W w')
    (H2 : ∀ W, Kept w0 W → w0.heap.size ≤ W.heap.size → Calls Try.prog 22 #[.agg #[.string (A 2).a, .slice (A 2).p (A 2).l (A 2).c]] W fun e w' => e = .returned (.string Y) ∧ Below W.heap.size W w')
    (hX : X.size ≤ 8000) (hY : Y.size ≤ 8000) :
    Calls Try.prog 22 #[.agg #[.string ByteArray.empty, .slice (some ⟨b, 0, none⟩) 3 cap]] w fun e w' => e = .returned (.string (((({ data := #[40, 117, 32, 40, 62, 32] } : ByteArray) ++ X) ++ ({ data := #[32, 40, 102, 32] } : ByteArray)) ++ Y ++ ({ data := #[41, 41, 41] } : ByteArray))) ∧ Below w.heap.size w w' := by
  have hmc : cap ≤ 9223372036854775807 := by have := hcap.2; unfold maxLen at this; omega
  have HX := hid H1
  have HY := hid H2
  have HBOX := hid (fun W hb => box3 (x := .string ByteArray.empty) (y := .slice (some ⟨b, 0, none⟩) 3 cap) (T := 38) hk hw hA hB W hb)
  have W1 := hid (show ∀ Wx, Below (w.alloc (.cells #[.string ByteArray.empty, .slice (some ⟨b, 0, none⟩) 3 cap] 38)).heap.size (w.alloc (.cells #[.string ByteArray.empty, .slice (some ⟨b, 0, none⟩) 3 cap] 38)) Wx → Below (w.heap.size + 1) (w.alloc (.cells #[.string ByteArray.empty, .slice (some ⟨b, 0, none⟩) 3 cap] 38)) Wx from fun Wx h => by simpa using h)
  obtain ⟨⟨o1, o2⟩, ⟨o3, o4, o5, o6, o7, o8⟩, o9, o10, o11⟩ := HBOX.out _ (Below.refl _ _)
  have KX := hid o9
  clear o9 o11 hA hB hk H1 H2
  go_enter Try.func22, Try.ntmps22
  go_wp2_with (first | (have _ := HB1; go_at_call 22; refine (HY.out _ HC1.out (by omega)).mono ?_; rintro e w3 ⟨rfl, hb3⟩; obtain ⟨⟨p1, p2⟩, ⟨p3, p4, p5, p6, p7, p8⟩, p9, p10, p11⟩ := HBOX.out w3 (HW2.out.trans (hb3.mono (by omega))); have HB3 := hid p11; clear p9 p11 hb3) | (go_at_call 22; refine (HX.out _ KX.out (by simp; omega)).mono ?_; rintro e w2 ⟨rfl, hb2⟩; have hw2 := W1.out w2 hb2; obtain ⟨⟨c1, c2⟩, ⟨c3, c4, c5, c6, c7, c8⟩, c9, c10, c11⟩ := HBOX.out w2 hw2; have HC1 := hid c9; have HB1 := hid c11; have HW2 := hid hw2; clear c9 c11 hw2 hb2))
  go_ret
  exact ⟨rfl, HB3.out⟩

theorem byv_pair_txt (a b : STy) : (STy.pair a b).byv.txt = (((({ data := #[40, 42, 32] } : ByteArray) ++ a.byv.txt) ++ ({ data := #[32] } : ByteArray)) ++ b.byv.txt ++ ({ data := #[41] } : ByteArray)) := by
  apply ByteArray.ext; apply Array.toList_inj.1
  simp [STy.byv, Tree.txt, Tree.write, Tree.writes, sPr]
theorem byv_fn_txt (a b : STy) : (STy.fn a b).byv.txt = (((({ data := #[40, 117, 32, 40, 62, 32] } : ByteArray) ++ a.byv.txt) ++ ({ data := #[32, 40, 102, 32] } : ByteArray)) ++ b.byv.txt ++ ({ data := #[41, 41, 41] } : ByteArray)) := by
  apply ByteArray.ext; apply Array.toList_inj.1
  simp [STy.byv, Tree.txt, Tree.write, Tree.writes, sFn]

set_option maxHeartbeats 1000000 in
/-- THE MODEL's VALUE TRANSLATION OF A SOURCE TYPE. -/
theorem l7ByValue_any {w0 : World} {S : Nat → Prop} (s : STy) : ∀ {h : Hd}, TIn w0 S s.tree h → s.n ≤ 200 → ∀ w, Kept w0 w → w0.heap.size ≤ w.heap.size →
    Calls Try.prog 22 #[.agg #[.string h.a, .slice h.p h.l h.c]] w fun e w' => e = .returned (.string s.byv.txt) ∧ Below w.heap.size w w' := by
  induction s with
  | bit =>
    intro h ht _ w _ _
    cases ht with
    | atom x hne hm =>
      have he := isEmpty_not sBit hne
      have HX := hid (show ({ data := #[98] } : ByteArray) = STy.bit.byv.txt from rfl)
      go_enter Try.func22, Try.ntmps22
      go_wp2
      go_ret
      exact ⟨ret_str HX.out, (Below.refl _ _).alloc (by simp) _⟩
  | fn a b iha ihb =>
    intro h ht hn w hk hw
    obtain ⟨g, cap, A, rfl, hcap, hA, hB, h0, h1, h2⟩ := tin3 ht
    simp only [STy.n] at hn
    have l1 := byv_len a; have l2 := byv_len b
    rw [byv_fn_txt]
    exact l7ByValue_fn hcap hk hw (by rw [h0.text]; show (sFn.toList == [42]) = false; rw [sFn_l]; rfl) hA hB (iha h1 (by omega)) (ihb h2 (by omega)) (by rw [txt_size]; omega) (by rw [txt_size]; omega)
  | pair a b iha ihb =>
    intro h ht hn w hk hw
    obtain ⟨g, cap, A, rfl, hcap, hA, hB, h0, h1, h2⟩ := tin3 ht
    simp only [STy.n] at hn
    have l1 := byv_len a; have l2 := byv_len b
    rw [byv_pair_txt]
    exact l7ByValue_pair hcap hk hw (by rw [h0.text]; show (sPr.toList == [42]) = true; rw [sPr_l]; rfl) hA hB (iha h1 (by omega)) (ihb h2 (by omega)) (by rw [txt_size]; omega) (by rw [txt_size]; omega)
end Go.Proofs.Ytlggbhakkhecmaa

namespace Go.Proofs.Ytlggbhakkhecmaa
open Go.RowKit

set_option maxRecDepth 100000 in
set_option maxHeartbeats 2000000 in
theorem l8ByName_pair {w0 w : World} {b cap : Nat} {A : Nat → Hd} {X Y : ByteArray} (hcap : 3 ≤ cap ∧ cap ≤ maxLen) (hk : Kept w0 w) (hw : w0.heap.size ≤ w.heap.size) (e0 : ((A 0).a.toList == [42]) = true)
    (hA : ∀ i, i < 3 → w0.cell? ⟨b, i * 2, none⟩ = some (.string (A i).a)) (hB : ∀ i, i < 3 → w0.cell? ⟨b, i * 2 + 1, none⟩ = some (.slice (A i).p (A i).l (A i).c))
    (H1 : ∀ W, Kept w0 W → w0.heap.size ≤ W.heap.size → Calls Try.prog 26 #[.agg #[.string (A 1).a, .slice (A 1).p (A 1).l (A 1).c]] W fun e w' => e = .returned (.string X) ∧ Below W.heap.size W w')
    (H2 : ∀ W, Kept w0 W → w0.heap.size ≤ W.heap.size → Calls Try.prog 26 #[.agg #[.string (A 2).a, .slice (A 2).p (A 2).l (A 2).c]] W fun e w' => e = .returned (.string Y) ∧ Below W.heap.size W w')
    (hX : X.size ≤ 8000) (hY : Y.size ≤ 8000) :
    Calls Try.prog 26 #[.agg #[.string ByteArray.empty, .slice (some ⟨b, 0, none⟩) 3 cap]] w fun e w' => e = .returned (.string (((({ data := #[40, 38, 32] } : ByteArray) ++ X) ++ ({ data := #[32] } : ByteArray)) ++ Y ++ ({ data := #[41] } : ByteArray))) ∧ Below w.heap.size w w' := by
  have hmc : cap ≤ 9223372036854775807 := by have := hcap.2; unfold maxLen at this; omega
  have HX := hid H1
  have HY := hid H2
  have HBOX := hid (fun W hb => box3 (x := .string ByteArray.empty) (y := .slice (some ⟨b, 0, none⟩) 3 cap) (T := 38) hk hw hA hB W hb)
  have W1 := hid (show ∀ Wx, Below (w.alloc (.cells #[.string ByteArray.empty, .slice (some ⟨b, 0, none⟩) 3 cap] 38)).heap.size (w.alloc (.cells #[.string ByteArray.empty, .slice (some ⟨b, 0, none⟩) 3 cap] 38)) Wx → Below (w.heap.size + 1) (w.alloc (.cells #[.string ByteArray.empty, .slice (some ⟨b, 0, none⟩) 3 cap] 38)) Wx from fun Wx h => by simpa using h)
  obtain ⟨⟨o1, o2⟩, ⟨o3, o4, o5, o6, o7, o8⟩, o9, o10, o11⟩ := HBOX.out _ (Below.refl _ _)
  have KX := hid o9
  clear o9 o11 hA hB hk H1 H2
  go_enter Try.func26, Try.ntmps26
  go_wp2_with (first | (have _ := HB1; go_at_call 26; refine (HY.out _ HC1.out (by omega)).mono ?_; rintro e w3 ⟨rfl, hb3⟩; obtain ⟨⟨p1, p2⟩, ⟨p3, p4, p5, p6, p7, p8⟩, p9, p10, p11⟩ := HBOX.out w3 (HW2.out.trans (hb3.mono (by omega))); have HB3 := hid p11; clear p9 p11 hb3) | (go_at_call 26; refine (HX.out _ KX.out (by simp; omega)).mono ?_; rintro e w2 ⟨rfl, hb2⟩; have hw2 := W1.out w2 hb2; obtain ⟨⟨c1, c2⟩, ⟨c3, c4, c5, c6, c7, c8⟩, c9, c10, c11⟩ := HBOX.out w2 hw2; have HC1 := hid c9; have HB1 := hid c11; have HW2 := hid hw2; clear c9 c11 hw2 hb2))
  go_ret
  exact ⟨rfl, HB3.out⟩

set_option maxRecDepth 100000 in
set_option maxHeartbeats 2000000 in
theorem l8ByName_fn {w0 w : World} {b cap : Nat} {A : Nat → Hd} {X Y : ByteArray} (hcap : 3 ≤ cap ∧ cap ≤ maxLen) (hk : Kept w0 w) (hw : w0.heap.size ≤ w.heap.size) (e0 : ((A 0).a.toList == [42]) = false)
    (hA : ∀ i, i < 3 → w0.cell? ⟨b, i * 2, none⟩ = some (.string (A i).a)) (hB : ∀ i, i < 3 → w0.cell? ⟨b, i * 2 + 1, none⟩ = some (.slice (A i).p (A i).l (A i).c))
    (H1 : ∀ W, Kept w0 W → w0.heap.size ≤ W.heap.size → Calls Try.prog 26 #[.agg #[.string (A 1).a, .slice (A 1).p (A 1).l (A 1).c]] W fun e w' => e = .returned (.string X) ∧ Below W.heap.size W w')
    (H2 : ∀ W, Kept w0 W → w0.heap.size ≤ W.heap.size → Calls Try.prog 26 #[.agg #[.string (A 2).a, .slice (A 2).p (A 2).l (A 2).c]] W fun e w' => e = .returned (.string Y) ∧ Below W.heap.size W w')
    (hX : X.size ≤ 8000) (hY : Y.size ≤ 8000) :
    Calls Try.prog 26 #[.agg #[.string ByteArray.empty, .slice (some ⟨b, 0, none⟩) 3 cap]] w fun e w' => e = .returned (.string (((({ data := #[40, 62, 32, 40, 117, 32] } : ByteArray) ++ X) ++ ({ data := #[41, 32] } : ByteArray)) ++ Y ++ ({ data := #[41] } : ByteArray))) ∧ Below w.heap.size w w' := by
  have hmc : cap ≤ 9223372036854775807 := by have := hcap.2; unfold maxLen at this; omega
  have HX := hid H1
  have HY := hid H2
  have HBOX := hid (fun W hb => box3 (x := .string ByteArray.empty) (y := .slice (some ⟨b, 0, none⟩) 3 cap) (T := 38) hk hw hA hB W hb)
  have W1 := hid (show ∀ Wx, Below (w.alloc (.cells #[.string ByteArray.empty, .slice (some ⟨b, 0, none⟩) 3 cap] 38)).heap.size (w.alloc (.cells #[.string ByteArray.empty, .slice (some ⟨b, 0, none⟩) 3 cap] 38)) Wx → Below (w.heap.size + 1) (w.alloc (.cells #[.string ByteArray.empty, .slice (some ⟨b, 0, none⟩) 3 cap] 38)) Wx from fun Wx h => by simpa using h)
  obtain ⟨⟨o1, o2⟩, ⟨o3, o4, o5, o6, o7, o8⟩, o9, o10, o11⟩ := HBOX.out _ (Below.refl _ _)
  have KX := hid o9
  clear o9 o11 hA hB hk H1 H2
  go_enter Try.func26, Try.ntmps26
  go_wp2_with (first | (have _ := HB1; go_at_call 26; refine (HY.out _ HC1.out (by omega)).mono ?_; rintro e w3 ⟨rfl, hb3⟩; obtain ⟨⟨p1, p2⟩, ⟨p3, p4, p5, p6, p7, p8⟩, p9, p10, p11⟩ := HBOX.out w3 (HW2.out.trans (hb3.mono (by omega))); have HB3 := hid p11; clear p9 p11 hb3) | (go_at_call 26; refine (HX.out _ KX.out (by simp; omega)).mono ?_; rintro e w2 ⟨rfl, hb2⟩; have hw2 := W1.out w2 hb2; obtain ⟨⟨c1, c2⟩, ⟨c3, c4, c5, c6, c7, c8⟩, c9, c10, c11⟩ := HBOX.out w2 hw2; have HC1 := hid c9; have HB1 := hid c11; have HW2 := hid hw2; clear c9 c11 hw2 hb2))
  go_ret
  exact ⟨rfl, HB3.out⟩

theorem byn_pair_txt (a b : STy) : (STy.pair a b).byn.txt = (((({ data := #[40, 38, 32] } : ByteArray) ++ a.byn.txt) ++ ({ data := #[32] } : ByteArray)) ++ b.byn.txt ++ ({ data := #[41] } : ByteArray)) := by
  apply ByteArray.ext; apply Array.toList_inj.1
  simp [STy.byn, Tree.txt, Tree.write, Tree.writes]
theorem byn_fn_txt (a b : STy) : (STy.fn a b).byn.txt = (((({ data := #[40, 62, 32, 40, 117, 32] } : ByteArray) ++ a.byn.txt) ++ ({ data := #[41, 32] } : ByteArray)) ++ b.byn.txt ++ ({ data := #[41] } : ByteArray)) := by
  apply ByteArray.ext; apply Array.toList_inj.1
  simp [STy.byn, Tree.txt, Tree.write, Tree.writes]

set_option maxHeartbeats 1000000 in
/-- THE MODEL's NAME TRANSLATION OF A SOURCE TYPE. -/
theorem l8ByName_any {w0 : World} {S : Nat → Prop} (s : STy) : ∀ {h : Hd}, TIn w0 S s.tree h → s.n ≤ 200 → ∀ w, Kept w0 w → w0.heap.size ≤ w.heap.size →
    Calls Try.prog 26 #[.agg #[.string h.a, .slice h.p h.l h.c]] w fun e w' => e = .returned (.string s.byn.txt) ∧ Below w.heap.size w w' := by
  induction s with
  | bit =>
    intro h ht _ w _ _
    cases ht with
    | atom x hne hm =>
      have he := isEmpty_not sBit hne
      have HX := hid (show ({ data := #[40, 102, 32, 98, 41] } : ByteArray) = STy.bit.byn.txt from rfl)
      go_enter Try.func26, Try.ntmps26
      go_wp2
      go_ret
      exact ⟨ret_str HX.out, (Below.refl _ _).alloc (by simp) _⟩
  | fn a b iha ihb =>
    intro h ht hn w hk hw
    obtain ⟨g, cap, A, rfl, hcap, hA, hB, h0, h1, h2⟩ := tin3 ht
    simp only [STy.n] at hn
    have l1 := byn_len a; have l2 := byn_len b
    rw [byn_fn_txt]
    exact l8ByName_fn hcap hk hw (by rw [h0.text]; show (sFn.toList == [42]) = false; rw [sFn_l]; rfl) hA hB (iha h1 (by omega)) (ihb h2 (by omega)) (by rw [txt_size]; omega) (by rw [txt_size]; omega)
  | pair a b iha ihb =>
    intro h ht hn w hk hw
    obtain ⟨g, cap, A, rfl, hcap, hA, hB, h0, h1, h2⟩ := tin3 ht
    simp only [STy.n] at hn
    have l1 := byn_len a; have l2 := byn_len b
    rw [byn_pair_txt]
    exact l8ByName_pair hcap hk hw (by rw [h0.text]; show (sPr.toList == [42]) = true; rw [sPr_l]; rfl) hA hB (iha h1 (by omega)) (ihb h2 (by omega)) (by rw [txt_size]; omega) (by rw [txt_size]; omega)
end Go.Proofs.Ytlggbhakkhecmaa
