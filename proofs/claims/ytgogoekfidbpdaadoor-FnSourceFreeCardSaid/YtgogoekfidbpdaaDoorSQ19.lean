/- Merged: SrcU, StI. -/
import Derived.Deep.RegionHeld3
import Derived.Test.YtgogoekfidbpdaaDoorSQ15
import Derived.Test.YtgogoekfidbpdaaDoorSQSJoinX
import Derived.BigQuiet
import Derived.Test.YtgogoekfidbpdaaDoorSQ9
namespace Go.Proofs.YtgogoekfidbpdaaDoor
open Go.RowKit


set_option maxRecDepth 100000 in
set_option maxHeartbeats 4000000 in
theorem srcText_two {w : World} {b c d : Nat} {hd : ByteArray} {A B : Tree} (e0 : (hd.toList == [98]) = false) (hA : A.write.length ≤ 8000) (hB : B.write.length ≤ 8000) (hh : hd.size ≤ 100)
    (hb : w.heap[b]? = some (.cells #[.string hd, .pointer (some ⟨c, 0, none⟩), .pointer (some ⟨d, 0, none⟩)] 78 (0, 0)))
    (H1 : ∀ W, Below w.heap.size w W → Calls Tryd.prog 18 #[.pointer (some ⟨c, 0, none⟩)] W fun e w' => e = .returned (.string A.txt) ∧ Below W.heap.size W w')
    (H2 : ∀ W, Below w.heap.size w W → Calls Tryd.prog 18 #[.pointer (some ⟨d, 0, none⟩)] W fun e w' => e = .returned (.string B.txt) ∧ Below W.heap.size W w') :
    Calls Tryd.prog 18 #[.pointer (some ⟨b, 0, none⟩)] w fun e w' => e = .returned (.string (Tree.node [.atom hd, A, B]).txt) ∧ Below w.heap.size w w' := by
  have HC1 := hid H1
  have HC2 := hid H2
  have hl : (Tree.node [.atom hd, A, B]).write.length ≤ 20000 := by simp [Tree.write, Tree.writes]; omega
  have HL := hid hl
  have HROW := hid (fun W => row_cells (heap_new W (.cells #[.string hd, .string A.txt, .string B.txt] 9) W.heap.size rfl) (ps := [.atom hd, A, B]) (by simp [atom_txt]))
  have hlt := lt_of_block hb
  have KB := hid (fun W (h : Below w.heap.size w W) => cells_of_3 (block_below hb h hlt))
  obtain ⟨d1, d2, d3⟩ := KB.out w (Below.refl _ _)
  clear H1 H2 hl hb hlt
  go_enter Tryd.func18, Tryd.ntmps18
  go_wp2_with fail
  go_region_held3 (fun w' => w'.cell? ⟨b, 0, none⟩ = some (.string hd) ∧ w'.cell? ⟨b, 1, none⟩ = some (.pointer (some ⟨c, 0, none⟩)) ∧ w'.cell? ⟨b, 2, none⟩ = some (.pointer (some ⟨d, 0, none⟩)))
    (first | exact ⟨d1, d2, d3⟩ | exact e5 | exact e4 | exact e3 | exact e2)
    (first
      | (have _ := HB3; go_at_call 41; refine (list_any [.atom hd, A, B] 3 _ 3 rfl (by decide) HL.out (by decide) _ (by simp) (HROW.out _)).mono ?_; rintro e w5 ⟨rfl, hb5⟩; have hb05 := below_nx hb5 HB4.out; have e5 := KB.out _ hb05; have HB5 := hid hb05; clear hb5 hb05)
      | (have _ := HB2; go_at_call 18; refine (HC2.out _ HB2.out).mono ?_; rintro e w3 ⟨rfl, hb3⟩; have hb03 := below_nx hb3 HB2.out; have e3 := KB.out _ hb03; have hb04 := hb03.alloc hb03.size (.cells #[.string hd, .string A.txt, .string B.txt] 9); have e4 := KB.out _ hb04; have HB3 := hid hb03; have HB4 := hid hb04; clear hb3 hb03 hb04)
      | (go_at_call 18; refine (HC1.out w.drew ((Below.refl _ _).drew)).mono ?_; rintro e w2 ⟨rfl, hb2⟩; have hb02 := below_nx hb2 ((Below.refl _ w).drew); have e2 := KB.out _ hb02; have HB2 := hid hb02; clear hb2 hb02))
  go_wp2_with fail
  go_ret
  exact ⟨rfl, HB5.out⟩

set_option maxRecDepth 100000 in
theorem srcText_bit {w : World} {b : Nat} {hd : ByteArray} (e0 : (hd.toList == [98]) = true) (hb : w.heap[b]? = some (.cells #[.string hd, .pointer none, .pointer none] 78 (0, 0))) :
    Calls Tryd.prog 18 #[.pointer (some ⟨b, 0, none⟩)] w fun e w' => e = .returned (.string ({ data := #[98] } : ByteArray)) ∧ Below w.heap.size w w' := by
  obtain ⟨d1, -, -⟩ := cells_of_3 hb
  clear hb
  go_enter Tryd.func18, Tryd.ntmps18
  go_wp2
  go_ret
  exact ⟨rfl, Below.refl _ _⟩

set_option maxHeartbeats 1000000 in
theorem srcText_any {w0 : World} {S : Nat → Prop} {s : STy} {b : Nat} (h : SIn w0 S s b) : s.n ≤ 200 → ∀ w, Kept w0 w → w0.heap.size ≤ w.heap.size →
    Calls Tryd.prog 18 #[.pointer (some ⟨b, 0, none⟩)] w fun e w' => e = .returned (.string s.tree.txt) ∧ Below w.heap.size w w' := by
  induction h with
  | bit hd hh b hS hb =>
    intro _ w hk hw
    exact srcText_bit (by rw [hh]; rfl) ((hk b (lt_of_block hb)).trans hb)
  | fn hd hh x y b c d hS hb hx hy ihx ihy =>
    intro hn w hk hw
    simp only [STy.n] at hn
    have l1 := tree_len x; have l2 := tree_len y; have l3 := byv_len x; have l4 := byv_len y; have l5 := dfl_len x; have l6 := dfl_len y
    have hh2 := bytes_of_toList hh
    have hlt := lt_of_block hb
    exact by have e : hd = sFn := hh2; subst e; exact srcText_two (by rw [sFn_l]; rfl) (by omega) (by omega) (by decide) ((hk b hlt).trans hb) (fun W h => ihx (by omega) W (hk.trans (Kept.of_below h (Nat.le_refl _)) hw) (Nat.le_trans hw h.size)) (fun W h => ihy (by omega) W (hk.trans (Kept.of_below h (Nat.le_refl _)) hw) (Nat.le_trans hw h.size))
  | pair hd hh x y b c d hS hb hx hy ihx ihy =>
    intro hn w hk hw
    simp only [STy.n] at hn
    have l1 := tree_len x; have l2 := tree_len y; have l3 := byv_len x; have l4 := byv_len y; have l5 := dfl_len x; have l6 := dfl_len y
    have hh2 := bytes_of_toList hh
    have hlt := lt_of_block hb
    exact by have e : hd = sPr := hh2; subst e; exact srcText_two (by rw [sPr_l]; rfl) (by omega) (by omega) (by decide) ((hk b hlt).trans hb) (fun W h => ihx (by omega) W (hk.trans (Kept.of_below h (Nat.le_refl _)) hw) (Nat.le_trans hw h.size)) (fun W h => ihy (by omega) W (hk.trans (Kept.of_below h (Nat.le_refl _)) hw) (Nat.le_trans hw h.size))
end Go.Proofs.YtgogoekfidbpdaaDoor

namespace Go.Proofs.YtgogoekfidbpdaaDoor
open Go.RowKit

/-- Names with their types, the innermost first. -/
def EIn (w : World) : List (ByteArray × STy) → Option Addr → Prop
  | [], p => p = none
  | (x, s) :: env, p => ∃ (f a : Nat) (q : Option Addr), p = some ⟨f, 0, none⟩ ∧ w.heap[f]? = some (.cells #[.string x, .pointer (some ⟨a, 0, none⟩), .pointer q] 97 (0, 0)) ∧ SIn w (fun _ => True) s a ∧ EIn w env q
theorem EIn.kept {w w' : World} (hk : Kept w w') : ∀ {env : List (ByteArray × STy)} {p : Option Addr}, EIn w env p → EIn w' env p
  | [], _, h => h
  | (_, _) :: _, _, ⟨f, a, q, hp, hb, hs, he⟩ => ⟨f, a, q, hp, (hk f (lt_of_block hb)).trans hb, hs.kept hk, he.kept hk⟩

set_option maxRecDepth 100000 in
theorem with_any (env : List (ByteArray × STy)) (p : Option Addr) (x : ByteArray) (s : STy) (a : Nat) (w : World) (he : EIn w env p) (hs : SIn w (fun _ => True) s a) :
    Calls Tryd.prog 53 #[.pointer p, .string x, .pointer (some ⟨a, 0, none⟩)] w fun e w' => ∃ q, e = .returned (.pointer q) ∧ EIn w' ((x, s) :: env) q ∧ Below w.heap.size w w' := by
  have HE := hid he
  have HS := hid hs
  clear he hs
  go_enter Tryd.func53, Tryd.ntmps53
  go_wp2
  go_ret
  have hk : Kept w (w.alloc (.cells #[.string x, .pointer (some ⟨a, 0, none⟩), .pointer p] 97)) := (Kept.refl w).alloc (Nat.le_refl _) _
  exact ⟨_, rfl, ⟨w.heap.size, a, p, rfl, heap_alloc_new _ _, HS.out.kept hk, HE.out.kept hk⟩, (Below.refl _ _).alloc (Nat.le_refl _) _⟩

/-- A type behind a pointer, or none, as a result. -/
def T7Post (o : Option STy) (w : World) (e : Ending) (w' : World) : Prop :=
  Below w.heap.size w w' ∧ match o with
    | some s => ∃ a : Nat, e = .returned (.tuple #[.pointer (some ⟨a, 0, none⟩), .bool true]) ∧ SIn w' (fun _ => True) s a
    | none => ∃ p, e = .returned (.tuple #[.pointer p, .bool false])
theorem T7Post.none {w w' : World} {e : Ending} (h : T7Post Option.none w e w') : ∃ p, e = .returned (.tuple #[.pointer p, .bool false]) ∧ Below w.heap.size w w' := let ⟨hb, p, he⟩ := h; ⟨p, he, hb⟩
theorem T7Post.some {w w' : World} {e : Ending} {s : STy} (h : T7Post (Option.some s) w e w') : ∃ a : Nat, e = .returned (.tuple #[.pointer (Option.some ⟨a, 0, Option.none⟩), .bool true]) ∧ Below w.heap.size w w' ∧ SIn w' (fun _ => True) s a :=
  let ⟨hb, a, he, hn⟩ := h; ⟨a, he, hb, hn⟩
theorem t7_none {w w' : World} {p : Option Addr} (h : Below w.heap.size w w') : T7Post none w (.returned (.tuple #[.pointer p, .bool false])) w' := ⟨h, p, rfl⟩
theorem t7_some {w w' : World} {s : STy} {a : Nat} (h : Below w.heap.size w w') (hn : SIn w' (fun _ => True) s a) : T7Post (some s) w (.returned (.tuple #[.pointer (some ⟨a, 0, none⟩), .bool true])) w' := ⟨h, a, rfl, hn⟩

set_option maxRecDepth 100000 in
set_option maxHeartbeats 1000000 in
theorem look_any (env : List (ByteArray × STy)) (p : Option Addr) (x : ByteArray) (w : World) (he : EIn w env p) :
    Calls Tryd.prog 62 #[.pointer p, .string x] w (T7Post (tLook env x.toList) w) := by
  obtain ⟨R, hR⟩ : ∃ R, tLook env x.toList = R := ⟨_, rfl⟩
  rw [hR]
  have HE := hid he
  have HR := hid hR
  clear he hR
  go_enter Tryd.func62, Tryd.ntmps62
  go_wp2_with fail
  go_loopg [0] env.length (fun gg s0 wr => ∃ (env' : List (ByteArray × STy)) (q : Option Addr), s0 = .pointer q ∧ wr = w ∧ env'.length ≤ gg ∧ Hid (EIn w env' q ∧ tLook env' x.toList = R))
  case atStart => exact ⟨env, p, rfl, rfl, Nat.le_refl _, hid ⟨HE.out, HR.out⟩⟩
  case round =>
    obtain ⟨env', q, rfl, rfl, hg, hq⟩ := hrel
    cases env' with
    | nil =>
      obtain ⟨h1, h2⟩ := hq.out
      have hq0 : q = none := h1
      subst hq0
      have HRN := hid (show R = none from h2.symm)
      clear h1 h2 hq
      go_wp2_with fail
      go_ret2
      rw [HRN.out]
      exact t7_none (Below.refl _ _)
    | cons y env' =>
      obtain ⟨y, s⟩ := y
      obtain ⟨h1, h2⟩ := hq.out
      obtain ⟨f, a, q', rfl, hb, hs, he'⟩ := h1
      have c := cells_of_3 hb
      rw [tLook] at h2
      have HS := hid hs
      have HE2 := hid he'
      cases e0 : y.toList == x.toList with
      | true =>
        rw [e0] at h2
        have HRS := hid (show R = some s from h2.symm)
        clear hq h2 hs he' hb
        go_wp2_with fail
        go_ret2
        rw [HRS.out]
        exact t7_some (Below.refl _ _) HS.out
      | false =>
        rw [e0] at h2
        have HRS := hid h2
        clear hq h2 hs he' hb
        go_wp2_with fail
        go_roundg env'.length
        case measure => simp at hg; omega
        case rel => exact ⟨env', q', rfl, rfl, Nat.le_refl _, hid ⟨HE2.out, HRS.out⟩⟩

set_option maxRecDepth 100000 in
set_option maxHeartbeats 1000000 in
theorem same7_any {w : World} {S : Nat → Prop} {s t : STy} {a b : Nat} (hs : SIn w S s a) (ht : SIn w S t b) (h1 : s.n ≤ 200) (h2 : t.n ≤ 200) :
    Calls Tryd.prog 63 #[.pointer (some ⟨a, 0, none⟩), .pointer (some ⟨b, 0, none⟩)] w fun e w' => e = .returned (.bool (eqT s t)) ∧ Below w.heap.size w w' := by
  have HS := hid (fun W hk hw => srcText_any hs h1 W hk hw)
  have HT := hid (fun W hk hw => srcText_any ht h2 W hk hw)
  have HE := hid (show eqT s t = (s.tree.txt.toList == t.tree.txt.toList) from rfl)
  obtain ⟨R, hR⟩ : ∃ R, eqT s t = R := ⟨_, rfl⟩
  rw [hR] at HE ⊢
  obtain ⟨X, hX⟩ : ∃ X, s.tree.txt = X := ⟨_, rfl⟩
  obtain ⟨Y, hY⟩ : ∃ Y, t.tree.txt = Y := ⟨_, rfl⟩
  rw [hX] at HS HE
  rw [hY] at HT HE
  clear hs ht hR hX hY
  go_enter Tryd.func63, Tryd.ntmps63
  go_wp2_with (first | (have _ := HB1; go_at_call 18; refine (HT.out _ (Kept.of_below HB1.out (Nat.le_refl _)) HB1.out.size).mono ?_; rintro e w2 ⟨rfl, hb2⟩) | (go_at_call 18; refine (HS.out _ (Kept.refl _) (Nat.le_refl _)).mono ?_; rintro e w1 ⟨rfl, hb1⟩; have HB1 := hid hb1))
  go_ret
  exact ⟨ret_bool HE.out.symm, hb1.trans (hb2.mono hb1.size)⟩

set_option maxRecDepth 100000 in
set_option maxHeartbeats 1000000 in
theorem atoms7_any {w0 : World} {S : Nat → Prop} {s : STy} {a : Nat} (h : SIn w0 S s a) : s.n ≤ 200 → ∀ w, Kept w0 w →
    Calls Tryd.prog 55 #[.pointer (some ⟨a, 0, none⟩)] w fun e w' => e = .returned (.int .i64 (s.n : Int)) ∧ ∃ k, w' = w.drewN k := by
  have two : ∀ (x y : STy) (hd : ByteArray) (b c d : Nat) (w : World), (hd.toList == [98]) = false → x.n + y.n ≤ 200 → w.cell? ⟨b, 0, none⟩ = some (.string hd) ∧ w.cell? ⟨b, 1, none⟩ = some (.pointer (some ⟨c, 0, none⟩)) ∧ w.cell? ⟨b, 2, none⟩ = some (.pointer (some ⟨d, 0, none⟩)) →
      (∀ k, Calls Tryd.prog 55 #[.pointer (some ⟨c, 0, none⟩)] (w.drewN k) fun e w' => e = .returned (.int .i64 (x.n : Int)) ∧ ∃ j, w' = (w.drewN k).drewN j) →
      (∀ k, Calls Tryd.prog 55 #[.pointer (some ⟨d, 0, none⟩)] (w.drewN k) fun e w' => e = .returned (.int .i64 (y.n : Int)) ∧ ∃ j, w' = (w.drewN k).drewN j) →
      Calls Tryd.prog 55 #[.pointer (some ⟨b, 0, none⟩)] w fun e w' => e = .returned (.int .i64 ((1 + x.n + y.n : Nat) : Int)) ∧ ∃ k, w' = w.drewN k := by
    intro x y hd b c d w e0 hn ⟨k0, k1, k2⟩ H1 H2
    have HX := hid H1
    have HY := hid H2
    obtain ⟨n1, hn1⟩ : ∃ n1, x.n = n1 := ⟨_, rfl⟩
    obtain ⟨n2, hn2⟩ : ∃ n2, y.n = n2 := ⟨_, rfl⟩
    rw [hn1] at HX hn ⊢
    rw [hn2] at HY hn ⊢
    have f1 : IntKind.i64.wrap (1 + (n1 : Int)) = 1 + (n1 : Int) := IntWalk.i64_in _ (by omega)
    have f2 : IntKind.i64.wrap (1 + (n1 : Int) + (n2 : Int)) = 1 + (n1 : Int) + (n2 : Int) := IntWalk.i64_in _ (by omega)
    clear H1 H2 hn1 hn2
    go_enter Tryd.func55, Tryd.ntmps55
    go_wp2_with fail
    go_quiet ((first | (go_at_call 55; with_reducible exact Calls.quiet_of (HX.out _)) | (go_at_call 55; with_reducible exact Calls.quiet_of (HY.out _))))
    go_wp2_with fail
    go_ret
    exact ⟨ret_int (by omega), _, rfl⟩
  induction h with
  | bit hd hh b hS hb =>
    intro _ w hk
    obtain ⟨k0, -, -⟩ := cells_of_3 ((hk b (lt_of_block hb)).trans hb)
    have e0 : (hd.toList == [98]) = true := by rw [hh]; rfl
    clear hb hh
    go_enter Tryd.func55, Tryd.ntmps55
    go_wp2
    go_ret
    exact ⟨rfl, 0, rfl⟩
  | fn hd hh x y b c d hS hb hx hy ihx ihy =>
    intro hn w hk
    simp only [STy.n] at hn ⊢
    exact two x y hd b c d w (by rw [hh]; rfl) (by omega) (cells_of_3 ((hk b (lt_of_block hb)).trans hb)) (fun k => ihx (by omega) _ (fun j hj => hk j hj)) (fun k => ihy (by omega) _ (fun j hj => hk j hj))
  | pair hd hh x y b c d hS hb hx hy ihx ihy =>
    intro hn w hk
    simp only [STy.n] at hn ⊢
    exact two x y hd b c d w (by rw [hh]; rfl) (by omega) (cells_of_3 ((hk b (lt_of_block hb)).trans hb)) (fun k => ihx (by omega) _ (fun j hj => hk j hj)) (fun k => ihy (by omega) _ (fun j hj => hk j hj))
end Go.Proofs.YtgogoekfidbpdaaDoor
