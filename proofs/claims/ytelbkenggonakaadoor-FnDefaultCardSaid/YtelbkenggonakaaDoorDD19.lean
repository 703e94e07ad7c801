/- Merged: SxM, SpXI, StM, StN. -/
import Derived.Test.YtelbkenggonakaaDoorDDSSxL
import Derived.Test.YtelbkenggonakaaDoorDD10
import Derived.Test.YtelbkenggonakaaDoorDDSStL
import Derived.Test.YtelbkenggonakaaDoorDD0
namespace Go.Proofs.YtelbkenggonakaaDoor
open Go.RowKit

set_option maxRecDepth 100000 in
set_option maxHeartbeats 4000000 in
theorem readSource_any (s : ByteArray) (hs : s.size ≤ 400000000) (w : World) : Calls Tryd.prog 17 #[.string s] w (X7Post (readSx s) w) := by
  have HC := hid (fun W => readPhrase_any s hs W)
  cases hp : parse s with
  | none =>
    have HP := hid hp
    have HR := hid (show readSx s = none by rw [readSx, hp])
    clear hp
    go_enter Tryd.func17, Tryd.ntmps17
    go_wp2_with (go_at_call 22; refine (HC.out _).mono ?_; rintro e w1 hp; rw [HP.out] at hp; obtain ⟨pa, pp, pl, pc, rfl, hpl, hb1⟩ := hp.none; clear hp)
    go_ret2
    rw [HR.out]
    exact x7_none (hb1.alloc hb1.size _)
  | some t =>
    have hwt := parse_wt hp
    have hwl := parse_small hp
    have hsz : t.size ≤ 12000 := Nat.le_trans (size_le_wt t) hwt
    have HP := hid hp
    have hR : readSx s = if t.size ≤ 150 then t.sx else none := by rw [readSx, hp]
    clear hp
    by_cases h150 : t.size ≤ 150
    · rw [if_pos h150] at hR
      cases hx : t.sx with
      | none =>
        have HR := hid (hR.trans hx)
        have HT := hid hx
        clear hx hR
        go_enter Tryd.func17, Tryd.ntmps17
        go_wp2_with (first | (go_at_call 22; refine (HC.out _).mono ?_; rintro e w1 hp; rw [HP.out] at hp; obtain ⟨pa, pp, pl, pc, rfl, hb1, ht⟩ := hp.some; clear hp; have HD := hid (fun W hk hs => atoms_any ht hsz W hk hs); have HE := hid (sourceOf_any ht hwt hwl); clear ht) | (go_at_call 30; refine (HD.out _ ((Kept.refl _).alloc (Nat.le_refl _) _) (by simp)).mono ?_; rintro e w2 ⟨rfl, hb2⟩; have k2 := cells_of_pair (block_below (heap_new w1 (.cells #[.string pa, .slice pp pl pc] 55) _ rfl) hb2 (by simp)); have s2 := hb2.size; simp at s2; have HK2 := hid (((Kept.refl w1).alloc (Nat.le_refl _) _).below hb2 (by simp))) | (go_at_call 31; refine (HE.out _ HK2.out (by omega)).mono ?_; rintro e w3 hp; rw [HT.out] at hp; obtain ⟨p1, rfl, hb3⟩ := hp.none; clear hp))
        go_ret2
        rw [HR.out]
        have s1 := hb1.size
        have hbw : Below w.heap.size w w3 := hb1.trans ((((Below.refl _ _).alloc (Nat.le_refl _) _).trans ((hb2.mono (by simp)).trans (hb3.mono (by omega)))).mono hb1.size)
        exact x7_none hbw
      | some m =>
        have HR := hid (hR.trans hx)
        have HT := hid hx
        clear hx hR
        go_enter Tryd.func17, Tryd.ntmps17
        go_wp2_with (first | (go_at_call 22; refine (HC.out _).mono ?_; rintro e w1 hp; rw [HP.out] at hp; obtain ⟨pa, pp, pl, pc, rfl, hb1, ht⟩ := hp.some; clear hp; have HD := hid (fun W hk hs => atoms_any ht hsz W hk hs); have HE := hid (sourceOf_any ht hwt hwl); clear ht) | (go_at_call 30; refine (HD.out _ ((Kept.refl _).alloc (Nat.le_refl _) _) (by simp)).mono ?_; rintro e w2 ⟨rfl, hb2⟩; have k2 := cells_of_pair (block_below (heap_new w1 (.cells #[.string pa, .slice pp pl pc] 55) _ rfl) hb2 (by simp)); have s2 := hb2.size; simp at s2; have HK2 := hid (((Kept.refl w1).alloc (Nat.le_refl _) _).below hb2 (by simp))) | (go_at_call 31; refine (HE.out _ HK2.out (by omega)).mono ?_; rintro e w3 hp; rw [HT.out] at hp; obtain ⟨a1, rfl, hb3, hn1⟩ := hp.some; clear hp))
        go_ret2
        rw [HR.out]
        have s1 := hb1.size
        have hbw : Below w.heap.size w w3 := hb1.trans ((((Below.refl _ _).alloc (Nat.le_refl _) _).trans ((hb2.mono (by simp)).trans (hb3.mono (by omega)))).mono hb1.size)
        exact x7_some hbw (hn1.wide (fun k hk => by omega))
    · rw [if_neg h150] at hR
      have HR := hid hR
      have h151 : 150 < t.size := by omega
      clear h150 hR
      go_enter Tryd.func17, Tryd.ntmps17
      go_wp2_with (first | (go_at_call 22; refine (HC.out _).mono ?_; rintro e w1 hp; rw [HP.out] at hp; obtain ⟨pa, pp, pl, pc, rfl, hb1, ht⟩ := hp.some; clear hp; have HD := hid (fun W hk hs => atoms_any ht hsz W hk hs); have HE := hid (sourceOf_any ht hwt hwl); clear ht) | (go_at_call 30; refine (HD.out _ ((Kept.refl _).alloc (Nat.le_refl _) _) (by simp)).mono ?_; rintro e w2 ⟨rfl, hb2⟩; have k2 := cells_of_pair (block_below (heap_new w1 (.cells #[.string pa, .slice pp pl pc] 55) _ rfl) hb2 (by simp)); have s2 := hb2.size; simp at s2; have HK2 := hid (((Kept.refl w1).alloc (Nat.le_refl _) _).below hb2 (by simp))))
      go_ret2
      rw [HR.out]
      exact x7_none (hb1.trans ((((Below.refl _ _).alloc (Nat.le_refl _) _).trans (hb2.mono (by simp))).mono hb1.size))
end Go.Proofs.YtelbkenggonakaaDoor

namespace Go.Proofs.YtelbkenggonakaaDoor
open Go.RowKit

/-- What SourcePure answers. -/
def spX (s : ByteArray) : Bool := match readSx s with
  | some e => e.pure
  | none => false
set_option maxRecDepth 100000 in
set_option maxHeartbeats 2000000 in
theorem implSourcePure_any (s : ByteArray) (hs : s.size ≤ 400000000) (w : World) : Calls Tryd.prog 8 #[.string s] w fun r w' => r = .returned (.bool (spX s)) ∧ Below w.heap.size w w' := by
  have HC := hid (fun W => readSource_any s hs W)
  cases hr : readSx s with
  | none =>
    have HR := hid hr
    have HX := hid (show spX s = false by rw [spX, hr])
    clear hr
    go_enter Tryd.func8, Tryd.ntmps8
    go_wp2_with (go_at_call 17; refine (HC.out _).mono ?_; rintro e w1 hp; rw [HR.out] at hp; obtain ⟨p1, rfl, hb1⟩ := hp.none; clear hp)
    go_ret
    exact ⟨ret_bool HX.out.symm, hb1⟩
  | some m =>
    have HR := hid hr
    have HX := hid (show spX s = m.pure by rw [spX, hr])
    clear hr
    go_enter Tryd.func8, Tryd.ntmps8
    go_wp2_with (first | (go_at_call 18; refine HD.out.mono ?_; rintro e w2 ⟨rfl, rfl⟩) | (go_at_call 17; refine (HC.out _).mono ?_; rintro e w1 hp; rw [HR.out] at hp; obtain ⟨a1, rfl, hb1, hn1⟩ := hp.some; clear hp; have HD := hid (isPure_any hn1 w1 (Kept.refl _)); clear hn1))
    go_ret
    exact ⟨ret_bool HX.out.symm, hb1⟩
end Go.Proofs.YtelbkenggonakaaDoor

namespace Go.Proofs.YtelbkenggonakaaDoor
open Go.RowKit

theorem results_tmp3 {fn : Func} {t u v : Tmp} (h : fn.results = #[.tmp t, .tmp u, .tmp v]) (tmps : Array Value) (P : Program) (w : World) :
    (results fn tmps).run P w = .ok (.tuple #[tmps.getD t undef, tmps.getD u undef, tmps.getD v undef]) w := by
  simp [results, h]
/-- An expression that has a type, and its type. -/
def stE (s : ByteArray) : Option (Sx × STy) := match readSx s with
  | some e => (e.typ []).map fun t => (e, t)
  | none => none
/-- What SourceType prints. -/
def stT (s : ByteArray) : Option ByteArray := (stE s).map fun x => x.2.tree.txt
def RtPost (o : Option (Sx × STy)) (w : World) (e : Ending) (w' : World) : Prop :=
  Below w.heap.size w w' ∧ match o with
    | some x => ∃ a b : Nat, e = .returned (.tuple #[.pointer (some ⟨a, 0, none⟩), .pointer (some ⟨b, 0, none⟩), .bool true]) ∧ XIn w' (fun _ => True) x.1 a ∧ SIn w' (fun _ => True) x.2 b
    | none => ∃ p q, e = .returned (.tuple #[.pointer p, .pointer q, .bool false])
theorem RtPost.none {w w' : World} {e : Ending} (h : RtPost Option.none w e w') : ∃ p q, e = .returned (.tuple #[.pointer p, .pointer q, .bool false]) ∧ Below w.heap.size w w' := let ⟨hb, p, q, he⟩ := h; ⟨p, q, he, hb⟩
theorem RtPost.some {w w' : World} {e : Ending} {x : Sx × STy} (h : RtPost (Option.some x) w e w') : ∃ a b : Nat, e = .returned (.tuple #[.pointer (Option.some ⟨a, 0, Option.none⟩), .pointer (Option.some ⟨b, 0, Option.none⟩), .bool true]) ∧ Below w.heap.size w w' ∧ XIn w' (fun _ => True) x.1 a ∧ SIn w' (fun _ => True) x.2 b :=
  let ⟨hb, a, b, he, h1, h2⟩ := h; ⟨a, b, he, hb, h1, h2⟩
theorem rt_none {w w' : World} {p q : Option Addr} (h : Below w.heap.size w w') : RtPost none w (.returned (.tuple #[.pointer p, .pointer q, .bool false])) w' := ⟨h, p, q, rfl⟩
theorem stE_n {s : ByteArray} {x : Sx × STy} (h : stE s = some x) : readSx s = some x.1 ∧ x.1.typ [] = some x.2 ∧ x.2.n ≤ 12 := by
  rw [stE] at h
  cases hr : readSx s with
  | none => rw [hr] at h; simp at h
  | some e =>
    rw [hr] at h
    simp only at h
    cases ht : e.typ [] with
    | none => rw [ht] at h; simp at h
    | some t =>
      rw [ht] at h
      simp at h; subst h
      exact ⟨rfl, ht, typ_n ht⟩

set_option maxRecDepth 100000 in
set_option maxHeartbeats 2000000 in
theorem readTyped_any (s : ByteArray) (hs : s.size ≤ 400000000) (w : World) : Calls Tryd.prog 15 #[.string s] w (RtPost (stE s) w) := by
  have HC := hid (fun W => readSource_any s hs W)
  cases hr : readSx s with
  | none =>
    have HR := hid hr
    have HX := hid (show stE s = none by rw [stE, hr])
    clear hr
    go_enter Tryd.func15, Tryd.ntmps15
    go_wp2_with (go_at_call 17; refine (HC.out _).mono ?_; rintro e w1 hp; rw [HR.out] at hp; obtain ⟨p1, rfl, hb1⟩ := hp.none; clear hp)
    ((try simp only [Exit.inBlock, Exit.then]); refine bodyPost_ret (results_tmp3 rfl _ _ _) rfl ?_)
    rw [HX.out]
    exact rt_none hb1
  | some m =>
    have HR := hid hr
    have han : m.an := sx_an (readSx_inv hr).2.2
    have hx : stE s = (m.typ []).map fun t => (m, t) := by rw [stE, hr]
    clear hr
    cases ht : m.typ [] with
    | none =>
      rw [ht] at hx
      have HX := hid (show stE s = none from hx)
      have HT := hid ht
      clear ht hx
      go_enter Tryd.func15, Tryd.ntmps15
      go_wp2_with (first | (go_at_call 29; refine HD.out.mono ?_; rintro e w2 hp; rw [HT.out] at hp; obtain ⟨p2, rfl, hb2⟩ := hp.none; clear hp) | (go_at_call 17; refine (HC.out _).mono ?_; rintro e w1 hp; rw [HR.out] at hp; obtain ⟨a1, rfl, hb1, hn1⟩ := hp.some; clear hp; have HD := hid (typeIn_any hn1 han [] none w1 (Kept.refl _) (Nat.le_refl _) (by simp) rfl); clear hn1))
      ((try simp only [Exit.inBlock, Exit.then]); refine bodyPost_ret (results_tmp3 rfl _ _ _) rfl ?_)
      rw [HX.out]
      exact rt_none (hb1.trans (hb2.mono hb1.size))
    | some t =>
      rw [ht] at hx
      have HX := hid (show stE s = some (m, t) from hx)
      have HT := hid ht
      clear ht hx
      go_enter Tryd.func15, Tryd.ntmps15
      go_wp2_with (first | (go_at_call 29; refine HD.out.mono ?_; rintro e w2 hp; rw [HT.out] at hp; obtain ⟨a2, rfl, hb2, hn2⟩ := hp.some; have HN2 := hid hn2; clear hp hn2) | (go_at_call 17; refine (HC.out _).mono ?_; rintro e w1 hp; rw [HR.out] at hp; obtain ⟨a1, rfl, hb1, hn1⟩ := hp.some; clear hp; have HD := hid (typeIn_any hn1 han [] none w1 (Kept.refl _) (Nat.le_refl _) (by simp) rfl); have HN1 := hid hn1; clear hn1))
      ((try simp only [Exit.inBlock, Exit.then]); refine bodyPost_ret (results_tmp3 rfl _ _ _) rfl ?_)
      rw [HX.out]
      exact ⟨hb1.trans (hb2.mono hb1.size), a1, a2, rfl, (HN1.out.kept (Kept.of_below hb2 (Nat.le_refl _))).wide (fun _ _ => trivial), HN2.out⟩

end Go.Proofs.YtelbkenggonakaaDoor

namespace Go.Proofs.YtelbkenggonakaaDoor
open Go.RowKit

set_option maxRecDepth 100000 in
set_option maxHeartbeats 2000000 in
theorem implSourceType_any (s : ByteArray) (hs : s.size ≤ 400000000) (w : World) : Calls Tryd.prog 7 #[.string s] w (TxPost (stT s) w) := by
  have HC := hid (fun W => readTyped_any s hs W)
  cases hr : stE s with
  | none =>
    have HR := hid hr
    have HX := hid (show stT s = none by rw [stT, hr]; rfl)
    clear hr
    go_enter Tryd.func7, Tryd.ntmps7
    go_wp2_with (go_at_call 15; refine (HC.out _).mono ?_; rintro e w1 hp; rw [HR.out] at hp; obtain ⟨p1, q1, rfl, hb1⟩ := hp.none; clear hp)
    go_ret2
    rw [HX.out]
    exact txPost_none hb1
  | some x =>
    have HR := hid hr
    have hn := (stE_n hr).2.2
    have HX := hid (show stT s = some x.2.tree.txt by rw [stT, hr]; rfl)
    clear hr
    go_enter Tryd.func7, Tryd.ntmps7
    go_wp2_with (first | (go_at_call 16; refine (HN1.out).mono ?_; rintro e w2 ⟨rfl, hb2⟩) | (go_at_call 15; refine (HC.out _).mono ?_; rintro e w1 hp; rw [HR.out] at hp; obtain ⟨a1, b1, rfl, hb1, hx1, hn1⟩ := hp.some; have HN1 := hid (srcText_any hn1 (by omega) w1 (Kept.refl _) (Nat.le_refl _)); clear hp hx1 hn1))
    go_ret2
    rw [HX.out]
    exact ⟨rfl, hb1.trans (hb2.mono hb1.size)⟩
end Go.Proofs.YtelbkenggonakaaDoor
