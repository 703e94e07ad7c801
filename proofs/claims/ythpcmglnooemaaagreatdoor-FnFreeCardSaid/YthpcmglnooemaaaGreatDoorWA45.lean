/- Merged: PutL, PutX, LtF. -/
import Derived.Test.YthpcmglnooemaaaGreatDoorWA42
import Derived.Test.YthpcmglnooemaaaGreatDoorWA30
import Derived.Test.YthpcmglnooemaaaGreatDoorWASExtN
import Derived.Test.YthpcmglnooemaaaGreatDoorWA41
import Derived.Test.YthpcmglnooemaaaGreatDoorWA11
import Derived.Test.YthpcmglnooemaaaGreatDoorWA44
namespace Go.Proofs.YthpcmglnooemaaaGreatDoor
open Go.RowKit

def mkT (m : Tm) : ByteArray := ⟨m.write.toArray⟩
/-- The text of a term that was made, if it keeps the limits. -/
def limOf (m : Tm) : Option ByteArray := if m.size ≤ 1500 then (if (parse (mkT m)).isSome = true then some (mkT m) else none) else none
def OptPost (o : Option ByteArray) (w : World) (e : Ending) (w' : World) : Prop := e = .returned (.tuple #[.string (o.getD ByteArray.empty), .bool o.isSome]) ∧ Below w.heap.size w w'
/-- Whether an extent keeps the limits. -/
def keepB (e : Ex) : Bool := decide (e.a ≤ 1500) && decide (e.b ≤ 12000) && decide (e.n ≤ 100)
/-- A term of a tree keeps the limits where its extent does. -/
theorem lim_eq {T : Tree} {m : Tm} (hT : T.wk) (ht : T.tm [] = some m) : limOf m = if keepB m.ex = true then some (mkT m) else none := by
  have he := tm_ex T [] m ht
  have hz := tm_size T [] m ht
  have hw := tm_write T [] m ht
  have ea : m.ex.a = T.size := by rw [← he]; rfl
  have eb : m.ex.b = T.write.length := by rw [← he]; rfl
  have en : m.ex.n = T.dp - 1 := by rw [← he]; rfl
  have hd : (mkT m).data.toList = T.write := by show m.write.toArray.toList = _; rw [hw]
  unfold limOf keepB
  by_cases h1 : m.size ≤ 1500
  · rw [if_pos h1]
    by_cases h2 : T.write.length ≤ 12000 ∧ T.dp ≤ 101
    · rw [parse_back hd hT h2.2 h2.1, ea, eb, en]
      have e1 : decide (T.size ≤ 1500) = true := decide_eq_true (by omega)
      have e2 : decide (T.write.length ≤ 12000) = true := decide_eq_true h2.1
      have e3 : decide (T.dp - 1 ≤ 100) = true := decide_eq_true (by omega)
      rw [e1, e2, e3]; rfl
    · have hn : parse (mkT m) = none := by
        cases hp : parse (mkT m) with
        | none => rfl
        | some t =>
          obtain ⟨k1, k2, k3⟩ := parse_wk hp
          have k4 := parse_write hp
          rw [hd] at k4
          obtain rfl := write_inj hT k1 k4
          exact absurd ⟨k3, k2⟩ h2
      rw [hn, ea, eb, en]
      have e2 : (decide (T.write.length ≤ 12000) && decide (T.dp - 1 ≤ 100)) = false := by
        cases e1 : decide (T.write.length ≤ 12000) with
        | false => rfl
        | true =>
          rw [Bool.true_and]
          exact decide_eq_false (fun h => h2 ⟨of_decide_eq_true e1, by omega⟩)
      rw [Bool.and_assoc, e2, Bool.and_false]; rfl
  · rw [if_neg h1, ea]
    have e1 : decide (T.size ≤ 1500) = false := decide_eq_false (by omega)
    rw [e1]; rfl
set_option maxRecDepth 100000 in
set_option maxHeartbeats 1000000 in
theorem keepsLimits_any {w0 : World} {S : Nat → Prop} {m : Tm} {b : Nat} (hn : NIn w0 S m b) (hok : m.ex.ok) (w : World) (hk : Kept w0 w) (hw : w0.heap.size ≤ w.heap.size) :
    Calls Tryz.prog 90 #[.pointer (some ⟨b, 0, none⟩)] w fun e w' => e = .returned (.bool (keepB m.ex)) ∧ Below w.heap.size w w' := by
  have HC := hid (extent_any hn hok w hk hw)
  obtain ⟨E, hE⟩ : ∃ E, m.ex = E := ⟨_, rfl⟩
  rw [hE] at HC ⊢
  obtain ⟨a, l, n⟩ := E
  clear hn hok hk hE
  have HC2 := hid (show Calls Tryz.prog 52 #[.pointer (some ⟨b, 0, none⟩)] w fun e w' => e = .returned (.agg #[.int .i64 (a : Int), .int .i64 (l : Int), .int .i64 (n : Int)]) ∧ Below w.heap.size w w' from HC.out)
  clear HC
  have hcs : (¬ a ≤ 1500 ∧ keepB ⟨a, l, n⟩ = false) ∨ (a ≤ 1500 ∧ ¬ l ≤ 12000 ∧ keepB ⟨a, l, n⟩ = false) ∨ (a ≤ 1500 ∧ l ≤ 12000 ∧ ¬ n ≤ 100 ∧ keepB ⟨a, l, n⟩ = false) ∨ (a ≤ 1500 ∧ l ≤ 12000 ∧ n ≤ 100 ∧ keepB ⟨a, l, n⟩ = true) := by
    unfold keepB
    by_cases e1 : a ≤ 1500 <;> by_cases e2 : l ≤ 12000 <;> by_cases e3 : n ≤ 100 <;> simp [e1, e2, e3]
  rcases hcs with ⟨e1, e4⟩ | ⟨e1, e2, e4⟩ | ⟨e1, e2, e3, e4⟩ | ⟨e1, e2, e3, e4⟩
  · have g1 : ¬ (a : Int) ≤ 1500 := by omega
    have g2 : 1500 < (a : Int) := by omega
    rw [e4]
    go_enter Tryz.func90, Tryz.ntmps90
    go_wp2_with (go_at_call 52; refine HC2.out.mono ?_; rintro e w1 ⟨rfl, hb1⟩)
    go_ret
    exact ⟨rfl, hb1.alloc hb1.size _⟩
  · have g1 : (a : Int) ≤ 1500 := by omega
    have g2 : ¬ (l : Int) ≤ 12000 := by omega
    have g3 : 12000 < (l : Int) := by omega
    rw [e4]
    go_enter Tryz.func90, Tryz.ntmps90
    go_wp2_with (go_at_call 52; refine HC2.out.mono ?_; rintro e w1 ⟨rfl, hb1⟩)
    go_ret
    exact ⟨rfl, hb1.alloc hb1.size _⟩
  · have g1 : (a : Int) ≤ 1500 := by omega
    have g2 : (l : Int) ≤ 12000 := by omega
    have g3 : ¬ (n : Int) ≤ 100 := by omega
    have g4 : 100 < (n : Int) := by omega
    rw [e4]
    go_enter Tryz.func90, Tryz.ntmps90
    go_wp2_with (go_at_call 52; refine HC2.out.mono ?_; rintro e w1 ⟨rfl, hb1⟩)
    go_ret
    exact ⟨ret_bool (decide_eq_false (by omega)), hb1.alloc hb1.size _⟩
  · have g1 : (a : Int) ≤ 1500 := by omega
    have g2 : (l : Int) ≤ 12000 := by omega
    have g3 : (n : Int) ≤ 100 := by omega
    rw [e4]
    go_enter Tryz.func90, Tryz.ntmps90
    go_wp2_with (go_at_call 52; refine HC2.out.mono ?_; rintro e w1 ⟨rfl, hb1⟩)
    go_ret
    exact ⟨rfl, hb1.alloc hb1.size _⟩
set_option maxRecDepth 100000 in
set_option maxHeartbeats 1000000 in
theorem limitedText_any {w0 : World} {S : Nat → Prop} {m : Tm} {b : Nat} {T : Tree} (hn : NIn w0 S m b) (hT : T.wk) (ht : T.tm [] = some m) (hok : m.ex.ok) (w : World) (hk : Kept w0 w) (hw : w0.heap.size ≤ w.heap.size) :
    Calls Tryz.prog 60 #[.pointer (some ⟨b, 0, none⟩)] w (OptPost (limOf m) w) := by
  have HS := hid (keepsLimits_any hn hok w hk hw)
  rw [lim_eq hT ht]
  cases hkb : keepB m.ex with
  | true =>
    have hlen : m.write.length ≤ 20000 := by
      have h1 : m.ex.b ≤ 12000 := by
        unfold keepB at hkb
        simp only [Bool.and_eq_true, decide_eq_true_eq] at hkb
        exact hkb.1.2
      rw [tm_write T [] m ht]
      rw [← tm_ex T [] m ht] at h1
      have h2 : T.ex.b = T.write.length := rfl
      omega
    have HT := hid (fun W (hk2 : Kept w0 W) (hw2 : w0.heap.size ≤ W.heap.size) => text_big hn (tm_fit T [] m ht) hlen W hk2 hw2)
    have HK := hid hk
    rw [hkb] at HS
    rw [if_pos rfl]
    obtain ⟨X, hX⟩ : ∃ X, mkT m = X := ⟨_, rfl⟩
    rw [show (⟨m.write.toArray⟩ : ByteArray) = mkT m from rfl, hX] at HT
    rw [hX]
    clear hn hT ht hok hkb hk hX
    go_enter Tryz.func60, Tryz.ntmps60
    go_wp2_with (first
      | (go_at_call 46; have _ := hb1; refine (HT.out _ (HK.out.below hb1 hw) (Nat.le_trans hw hb1.size)).mono ?_; rintro e w2 ⟨rfl, hb2⟩)
      | (go_at_call 90; refine HS.out.mono ?_; rintro e w1 ⟨rfl, hb1⟩))
    go_ret2
    exact ⟨rfl, hb1.trans (hb2.mono hb1.size)⟩
  | false =>
    rw [hkb] at HS
    rw [if_neg (by decide)]
    clear hn hT ht hok hkb hk
    go_enter Tryz.func60, Tryz.ntmps60
    go_wp2_with (go_at_call 90; refine HS.out.mono ?_; rintro e w1 ⟨rfl, hb1⟩)
    go_ret2
    exact ⟨rfl, hb1⟩
end Go.Proofs.YthpcmglnooemaaaGreatDoor

namespace Go.Proofs.YthpcmglnooemaaaGreatDoor
open Go.RowKit

mutual
theorem tmput_size (s : List UInt8) (v : Tm) : ∀ m : Tm, (Tm.put s v m).size ≤ m.size * v.size
  | .mk hd a d bs ty ks => by
    have hv := tm_size_pos v
    have h := tmputs_size s v ks
    rw [Tm.put]
    split
    · rw [Tm.size]; exact Nat.le_mul_of_pos_left _ (by omega)
    · rw [Tm.size, Tm.size, Nat.add_mul]
      have := Nat.le_mul_of_pos_right (1 + bs.length + tyAtoms ty) hv
      omega
theorem tmputs_size (s : List UInt8) (v : Tm) : ∀ ks : List Tm, Tm.sizes (Tm.puts s v ks) ≤ Tm.sizes ks * v.size
  | [] => by simp [Tm.puts, Tm.sizes]
  | k :: ks => by
    have h1 := tmput_size s v k
    have h2 := tmputs_size s v ks
    rw [Tm.puts, Tm.sizes, Tm.sizes, Nat.add_mul]; omega
end
/-- What TermPut answers. -/
def putOf (s x y : ByteArray) : Option ByteArray := match readTm s, readTm y with
  | some m, some v => if nameB x.toList = true ∧ v.isVal = true ∧ v.free.length = 0 then limOf (Tm.put x.toList v m) else none
  | _, _ => none
theorem putOf_none1 {s x y : ByteArray} (h : readTm s = none) : putOf s x y = none := by rw [putOf, h]
theorem putOf_none2 {s x y : ByteArray} (h : readTm y = none) : putOf s x y = none := by rw [putOf, h]; cases readTm s <;> rfl
theorem putOf_no {s x y : ByteArray} {m v : Tm} (h1 : readTm s = some m) (h2 : readTm y = some v) (h : ¬ (nameB x.toList = true ∧ v.isVal = true ∧ v.free.length = 0)) : putOf s x y = none := by rw [putOf, h1, h2]; exact if_neg h
theorem putOf_some {s x y : ByteArray} {m v : Tm} (h1 : readTm s = some m) (h2 : readTm y = some v) (h : nameB x.toList = true ∧ v.isVal = true ∧ v.free.length = 0) : putOf s x y = limOf (Tm.put x.toList v m) := by rw [putOf, h1, h2]; exact if_pos h
/-- What is so of a term that put makes. -/
theorem put_made {s x y : ByteArray} {m v : Tm} (h1 : readTm s = some m) (h2 : readTm y = some v) (h : nameB x.toList = true ∧ v.isVal = true ∧ v.free.length = 0) :
    ∃ T : Tree, T.wk ∧ T.tm [] = some (Tm.put x.toList v m) ∧ (Tm.put x.toList v m).ex.ok ∧ m.leafy := by
  obtain ⟨t, hp, ht, _, hms⟩ := readTm_inv h1
  obtain ⟨vt, hvp, hvt, _, hvs⟩ := readTm_inv h2
  have hf : vt.free [] = [] := by rw [← tm_free vt [] v hvt]; exact List.length_eq_zero_iff.1 h.2.2
  have hT := (put_tm h.1 h.2.1 (closed_all hvt hf) t [] m ht).1 (by simp [hasB])
  have hz := tm_size _ _ _ hT
  have hl := tm_wlen _ _ _ hT
  have h3 := tmput_size x.toList v m
  have h4 := Nat.mul_le_mul hms hvs
  have he := tm_ex _ _ _ hT
  have hd := dp_len (Tree.put x.toList vt t)
  refine ⟨_, put_wk (parse_wk hvp).1 t (parse_wk hp).1, hT, ?_, tm_leafy t [] m ht⟩
  rw [← he]
  exact ⟨by show (Tree.put x.toList vt t).size ≤ _; omega, by show (Tree.put x.toList vt t).write.length ≤ _; omega, by show (Tree.put x.toList vt t).dp - 1 ≤ _; omega⟩
theorem tmpost_gen {o : Option Tm} {w w' : World} {e : Ending} (h : TmPost o w e w') : ∃ P, e = .returned (.tuple #[.pointer P, .bool o.isSome]) ∧ Below w.heap.size w w' := by
  cases o with
  | none => obtain ⟨rfl, hb⟩ := h.none; exact ⟨_, rfl, hb⟩
  | some m => obtain ⟨a, rfl, hb, _⟩ := h.some; exact ⟨_, rfl, hb⟩

set_option maxRecDepth 100000 in
set_option maxHeartbeats 2000000 in
theorem implTermPut_any (s x y : ByteArray) (hs : s.size ≤ 400000000) (hx : x.size ≤ 400000000) (hy : y.size ≤ 400000000) (w : World) : Calls Tryz.prog 27 #[.string s, .string x, .string y] w (OptPost (putOf s x y) w) := by
  have HC1 := hid (fun W => readTerm_any s (by omega) W)
  have HC2 := hid (fun W => readClosedV_any y (by omega) W)
  have HC2g := hid (fun W => (show Calls Tryz.prog 57 #[.string y, .string strV, .slice none 0 0] W fun e w' => ∃ P, e = .returned (.tuple #[.pointer P, .bool (clV y).isSome]) ∧ Below W.heap.size W w' from (readClosedV_any y (by omega) W).mono fun e w' h => tmpost_gen h))
  have HNM := hid (fun W => isName_any x (by omega) W)
  cases hr1 : readTm s with
  | none =>
    have HR1 := hid hr1
    rw [putOf_none1 hr1]
    obtain ⟨d, hd⟩ : ∃ d, (clV y).isSome = d := ⟨_, rfl⟩
    rw [hd] at HC2g
    clear hr1 hd HC2 HNM
    go_enter Tryz.func27, Tryz.ntmps27
    go_wp2_with fail
    go_at_call 42
    refine (HC1.out _).mono ?_
    rintro e w1 hp1
    rw [HR1.out] at hp1
    obtain ⟨rfl, hb1⟩ := hp1.none
    have HB1 := hid hb1
    clear hp1 hb1
    go_wp2_with fail
    go_at_call 57
    refine (HC2g.out _).mono ?_
    rintro e w2 ⟨P, rfl, hb2⟩
    have HB2 := hid (HB1.out.trans (hb2.mono HB1.out.size))
    clear hb2
    go_wp2_with fail
    go_ret2
    exact ⟨rfl, HB2.out⟩
  | some m =>
    have HR1 := hid hr1
    obtain ⟨_, _, _, _, hms⟩ := readTm_inv hr1
    cases hn : nameB x.toList with
    | false =>
      have hpo : putOf s x y = none := by
        cases hr2 : readTm y with
        | none => exact putOf_none2 hr2
        | some v => exact putOf_no hr1 hr2 (fun e => by rw [hn] at e; cases e.1)
      rw [hpo]
      rw [hn] at HNM
      obtain ⟨d, hd⟩ : ∃ d, (clV y).isSome = d := ⟨_, rfl⟩
      rw [hd] at HC2g
      clear hr1 hd HC2 hpo hn hms
      go_enter Tryz.func27, Tryz.ntmps27
      go_wp2_with fail
      go_at_call 42
      refine (HC1.out _).mono ?_
      rintro e w1 hp1
      rw [HR1.out] at hp1
      obtain ⟨b1, rfl, hb1, _⟩ := hp1.some
      have HB1 := hid hb1
      clear hp1 hb1
      go_wp2_with fail
      go_at_call 57
      refine (HC2g.out _).mono ?_
      rintro e w2 ⟨P, rfl, hb2⟩
      have HB2 := hid (HB1.out.trans (hb2.mono HB1.out.size))
      clear hb2
      go_wp2_with fail
      go_at_call 58
      refine (HNM.out _).mono ?_
      rintro e w3 ⟨rfl, hb3⟩
      have HB3 := hid (HB2.out.trans (hb3.mono HB2.out.size))
      clear hb3
      go_wp2_with fail
      go_ret2
      exact ⟨rfl, HB3.out⟩
    | true =>
      rw [hn] at HNM
      cases hcv : clV y with
      | none =>
        have hpo : putOf s x y = none := by
          cases hr2 : readTm y with
          | none => exact putOf_none2 hr2
          | some v =>
            refine putOf_no hr1 hr2 (fun e => ?_)
            have h2 : clV y = some v := by rw [clV, hr2]; exact if_pos ⟨e.2.1, List.length_eq_zero_iff.1 e.2.2⟩
            rw [h2] at hcv; cases hcv
        rw [hpo]
        rw [hcv] at HC2g
        simp only [Option.isSome] at HC2g
        clear hr1 hcv HC2 hpo hn hms
        go_enter Tryz.func27, Tryz.ntmps27
        go_wp2_with fail
        go_at_call 42
        refine (HC1.out _).mono ?_
        rintro e w1 hp1
        rw [HR1.out] at hp1
        obtain ⟨b1, rfl, hb1, _⟩ := hp1.some
        have HB1 := hid hb1
        clear hp1 hb1
        go_wp2_with fail
        go_at_call 57
        refine (HC2g.out _).mono ?_
        rintro e w2 ⟨P, rfl, hb2⟩
        have HB2 := hid (HB1.out.trans (hb2.mono HB1.out.size))
        clear hb2
        go_wp2_with fail
        go_at_call 58
        refine (HNM.out _).mono ?_
        rintro e w3 ⟨rfl, hb3⟩
        have HB3 := hid (HB2.out.trans (hb3.mono HB2.out.size))
        clear hb3
        go_wp2_with fail
        go_ret2
        exact ⟨rfl, HB3.out⟩
      | some v =>
        have hr2 : readTm y = some v ∧ v.isVal = true ∧ v.free = [] := by
          rw [clV] at hcv
          cases hr2 : readTm y with
          | none => rw [hr2] at hcv; cases hcv
          | some v' =>
            rw [hr2] at hcv
            simp only at hcv
            split at hcv
            · rename_i c; obtain rfl := Option.some.inj hcv; exact ⟨rfl, c.1, c.2⟩
            · cases hcv
        obtain ⟨hr2, hv, hf⟩ := hr2
        have hf0 : v.free.length = 0 := by rw [hf]; rfl
        obtain ⟨T, hT, ht, hok, hlf⟩ := put_made hr1 hr2 ⟨hn, hv, hf0⟩
        rw [putOf_some hr1 hr2 ⟨hn, hv, hf0⟩]
        have HCV := hid hcv
        have HT := hid hT
        have HTT := hid ht
        have HOK := hid hok
        have HLF := hid hlf
        clear hr1 hcv hn hr2 hv hf hf0 hT ht hok hlf HC2g
        go_enter Tryz.func27, Tryz.ntmps27
        go_wp2_with fail
        go_at_call 42
        refine (HC1.out _).mono ?_
        rintro e w1 hp1
        rw [HR1.out] at hp1
        obtain ⟨b1, rfl, hb1, hn1⟩ := hp1.some
        have HB1 := hid hb1
        have HN1 := hid hn1
        clear hp1 hb1 hn1
        go_wp2_with fail
        go_at_call 57
        refine (HC2.out _).mono ?_
        rintro e w2 hp2
        rw [HCV.out] at hp2
        obtain ⟨b2, rfl, hb2, hn2⟩ := hp2.some
        have HB2 := hid (HB1.out.trans (hb2.mono HB1.out.size))
        have HN2 := hid hn2
        have HN12 := hid (HN1.out.keep (fun k _ hl => hb2.block k hl) (fun _ hk _ => hk))
        clear hp2 hb2 hn2
        go_wp2_with fail
        go_at_call 58
        refine (HNM.out _).mono ?_
        rintro e w3 ⟨rfl, hb3⟩
        have HB3 := hid (HB2.out.trans (hb3.mono HB2.out.size))
        have HK3 := hid (Kept.of_below hb3 (Nat.le_refl _))
        have hz3 := hb3.size
        clear hb3
        go_wp2_with fail
        go_at_call 59
        refine (put_any HN12.out x HN2.out HLF.out (by omega) w3 HK3.out hz3).mono ?_
        rintro e w4 ⟨b4, rfl, hn4, hb4⟩
        have HB4 := hid (HB3.out.trans (hb4.mono HB3.out.size))
        have HN4 := hid hn4
        clear hn4 hb4
        go_wp2_with fail
        go_at_call 60
        refine (limitedText_any HN4.out HT.out HTT.out HOK.out w4 (Kept.refl _) (Nat.le_refl _)).mono ?_
        rintro e w5 ⟨rfl, hb5⟩
        have HB5 := hid (HB4.out.trans (hb5.mono HB4.out.size))
        clear hb5
        go_wp2_with fail
        go_ret2
        exact ⟨rfl, HB5.out⟩
end Go.Proofs.YthpcmglnooemaaaGreatDoor

namespace Go.Proofs.YthpcmglnooemaaaGreatDoor
open Go.RowKit

mutual
theorem put_none (s : List UInt8) (v : Tm) : ∀ m : Tm, m.leafy → hasB m.free s = false → Tm.put s v m = m
  | .mk hd a d bs ty ks, hl, h => by
    rw [Tm.leafy] at hl
    rw [Tm.free] at h
    rw [Tm.put]
    by_cases e : hd.toList = [110, 97, 109, 101] ∧ d = -1
    · rw [if_pos e, hasB_cons] at h
      rw [if_neg (fun c => by
        have : (a.toList == s) = true := by simpa using c.2.2
        rw [this, Bool.true_or] at h; cases h), hl.1 e.1, Tm.puts]
    · rw [if_neg e] at h
      rw [if_neg (fun c => e ⟨c.1, c.2.1⟩), puts_none s v ks hl.2 h]
theorem puts_none (s : List UInt8) (v : Tm) : ∀ ks : List Tm, Tm.leafies ks → hasB (Tm.frees ks) s = false → Tm.puts s v ks = ks
  | [], _, _ => by rw [Tm.puts]
  | k :: ks, hl, h => by
    rw [Tm.leafies] at hl
    rw [Tm.frees, hasB_appU] at h
    simp only [Bool.or_eq_false_iff] at h
    rw [Tm.puts, put_none s v k hl.1 h.1, puts_none s v ks hl.2 h.2]
end
mutual
theorem put_free (s : List UInt8) (v : Tm) (hv : v.free = []) : ∀ m : Tm, (Tm.put s v m).free = m.free.filter fun x => !(x.toList == s)
  | .mk hd a d bs ty ks => by
    rw [Tm.put]
    by_cases e : hd.toList = [110, 97, 109, 101] ∧ d = -1
    · by_cases e2 : a.toList = s
      · rw [if_pos ⟨e.1, e.2, e2⟩, hv, Tm.free, if_pos e]
        simp [e2]
      · rw [if_neg (fun c => e2 c.2.2), Tm.free, if_pos e, Tm.free, if_pos e]
        simp [e2]
    · rw [if_neg (fun c => e ⟨c.1, c.2.1⟩), Tm.free, if_neg e, Tm.free, if_neg e, puts_free s v hv ks]
theorem puts_free (s : List UInt8) (v : Tm) (hv : v.free = []) : ∀ ks : List Tm, Tm.frees (Tm.puts s v ks) = (Tm.frees ks).filter fun x => !(x.toList == s)
  | [] => by rw [Tm.puts, Tm.frees]; rfl
  | k :: ks => by
    rw [Tm.puts, Tm.frees, Tm.frees, put_free s v hv k, puts_free s v hv ks, List.filter_append]
end
/-- A small atom in the place of a name: texts do not grow. -/
theorem tputs_wk0 {ps : List Tree} {p : Tree} (h : Tree.wks (p :: ps)) : p.wk ∧ Tree.wks ps := h
mutual
theorem tput_small {s : List UInt8} {z : ByteArray} (hz : z.size = 1) : ∀ t : Tree, t.wk → (Tree.put s (.atom z) t).size = t.size ∧ (Tree.put s (.atom z) t).write.length ≤ t.write.length ∧ (Tree.put s (.atom z) t).dp = t.dp
  | .atom a, h => by
    rw [Tree.put]
    split
    · rw [Tree.size, Tree.size, Tree.dp, Tree.dp, Tree.write, Tree.write]
      have h1 : z.data.toList.length = 1 := hz
      have h2 : a.data.toList.length = a.size := rfl
      have h3 := h.1
      exact ⟨rfl, by omega, rfl⟩
    · exact ⟨rfl, Nat.le_refl _, rfl⟩
  | .node [], _ => by rw [Tree.put]; exact ⟨rfl, Nat.le_refl _, rfl⟩
  | .node (q :: ps), h => by
    obtain ⟨h1, h2, h3⟩ := tputs_small (s := s) hz (xsOf (shape q.text.toList) ps) (shape q.text.toList) ps (tputs_wk0 h.2).2
    have e3 : ∀ (p : Tree) (ps : List Tree), (Tree.dps (p :: ps)) = max p.dp (Tree.dps ps) := fun p ps => by rw [Tree.dps] <;> rfl
    rw [Tree.put, Tree.size, Tree.size, Tree.sizes, Tree.sizes, Tree.dp, Tree.dp, e3, e3, Tree.write, Tree.write, h1, h3]
    refine ⟨rfl, ?_, rfl⟩
    simp only [List.length_cons, List.length_append]
    omega
theorem tputs_small {s : List UInt8} {z : ByteArray} (hz : z.size = 1) (xs : List ByteArray) : ∀ (cs : List Sg) (ps : List Tree), Tree.wks ps → Tree.sizes (Tree.puts s (.atom z) xs cs ps) = Tree.sizes ps ∧ (Tree.writes (Tree.puts s (.atom z) xs cs ps)).length ≤ (Tree.writes ps).length ∧ Tree.dps (Tree.puts s (.atom z) xs cs ps) = Tree.dps ps
  | [], ps, _ => by rw [Tree.puts]; exact ⟨rfl, Nat.le_refl _, rfl⟩
  | _ :: _, [], _ => by rw [Tree.puts]; exact ⟨rfl, Nat.le_refl _, rfl⟩
  | c :: cs, p :: ps, h => by
    obtain ⟨h1, h2, h3⟩ := tputs_small (s := s) hz xs cs ps (tputs_wk0 h).2
    obtain ⟨g1, g2, g3⟩ := tput_small (s := s) hz p (tputs_wk0 h).1
    have e3 : ∀ (p : Tree) (ps : List Tree), (Tree.dps (p :: ps)) = max p.dp (Tree.dps ps) := fun p ps => by rw [Tree.dps] <;> rfl
    rw [Tree.puts, Tree.sizes, Tree.sizes, e3, e3, Tree.writes, Tree.writes, h1, h3]
    split
    · rw [g1, g3]
      refine ⟨rfl, ?_, rfl⟩
      simp only [List.length_cons, List.length_append]
      omega
    · refine ⟨rfl, ?_, rfl⟩
      simp only [List.length_cons, List.length_append]
      omega
end
mutual
theorem free_name {bd : List ByteArray} {x : ByteArray} : ∀ t : Tree, x ∈ t.free bd → nameB x.toList = true
  | .atom s, h => by
    rw [Tree.free] at h
    split at h
    · rename_i c; simp at h; subst h; exact c.1
    · simp at h
  | .node [], h => by rw [Tree.free] at h; simp at h
  | .node (q :: ps), h => by rw [Tree.free] at h; exact frees_name _ _ ps h
theorem frees_name {bd : List ByteArray} {x : ByteArray} (xs : List ByteArray) : ∀ (cs : List Sg) (ps : List Tree), x ∈ Tree.frees bd xs cs ps → nameB x.toList = true
  | [], _, h => by rw [Tree.frees] at h; simp at h
  | _ :: _, [], h => by rw [Tree.frees] at h; simp at h
  | c :: cs, p :: ps, h => by
    rw [Tree.frees] at h
    rcases List.mem_append.1 h with h | h
    · split at h
      · split at h
        · exact free_name p h
        · exact free_name p h
      · simp at h
    · exact frees_name xs cs ps h
end
/-- The numeral 0 as a term. -/
def zB : ByteArray := ⟨#[48]⟩
def zT : Tm := .mk strBit zB (-1) [] none []
theorem zB_wk : (Tree.atom zB).wk := ⟨by decide, by decide⟩
theorem zB_tm : (Tree.atom zB).tm [] = some zT := by
  have : zB.toList = [48] := by rw [Go.ByteArray.toList_eq]; rfl
  rw [Tree.tm, atomTm, if_pos (Or.inl this)]; rfl
theorem zT_free : zT.free = [] := by
  have : ¬ (strBit.toList = [110, 97, 109, 101] ∧ (-1 : Int) = -1) := by rw [strBit_toList]; decide
  rw [zT, Tm.free, if_neg this, Tm.frees]
theorem zT_val : zT.isVal = true := by rw [zT, Tm.isVal, strBit_toList]; rfl
theorem zB_read : readTm zB = some zT :=
  read_back zB_wk (by decide) (by decide) (by decide) zB_tm (by rw [Tree.write])
/-- The pair of 0 and 1 as a term. -/
def pB : ByteArray := ⟨#[40, 112, 97, 105, 114, 32, 48, 32, 49, 41]⟩
def pTr : Tree := .node [.atom ⟨#[112, 97, 105, 114]⟩, .atom ⟨#[48]⟩, .atom ⟨#[49]⟩]
/-- What keeps of a term in which names are put one after another. -/
structure FrOk (m : Tm) (F : List ByteArray) (M : Tm) : Prop where
  tree : ∃ T : Tree, T.wk ∧ T.tm [] = some M ∧ T.size ≤ 1500 ∧ T.write.length ≤ 12000 ∧ T.dp ≤ 101
  free : M.free = m.free.filter fun x => !hasB F x.toList
theorem FrOk.read {m M : Tm} {F : List ByteArray} (h : FrOk m F M) : readTm (mkT M) = some M ∧ (mkT M).size ≤ 12000 := by
  obtain ⟨T, h1, h2, h3, h4, h5⟩ := h.tree
  have hw := tm_write T [] M h2
  refine ⟨read_back h1 h5 h4 h3 h2 (by show M.write.toArray.toList = _; rw [hw]), ?_⟩
  show M.write.toArray.size ≤ _
  rw [hw]; simpa using h4
theorem FrOk.put {m M : Tm} {F : List ByteArray} (h : FrOk m F M) {n : ByteArray} (hn : nameB n.toList = true) : putOf (mkT M) n zB = some (mkT (Tm.put n.toList zT M)) ∧ FrOk m (F ++ [n]) (Tm.put n.toList zT M) := by
  obtain ⟨T, h1, h2, h3, h4, h5⟩ := h.tree
  have hT := (put_tm hn zT_val (closed_all zB_tm (by rw [← tm_free _ [] _ zB_tm]; exact zT_free)) T [] M h2).1 (by simp [hasB])
  have hTw : (Tree.put n.toList (.atom zB) T).wk := put_wk zB_wk T h1
  obtain ⟨g1, g2, g3⟩ := tput_small (s := n.toList) (z := zB) rfl T h1
  have hk : FrOk m (F ++ [n]) (Tm.put n.toList zT M) := by
    refine ⟨⟨_, hTw, hT, by omega, by omega, by omega⟩, ?_⟩
    rw [put_free _ _ zT_free, h.free, List.filter_filter]
    congr 1
    funext x
    rw [hasB_appU, hasB_cons, show hasB [] x.toList = false from rfl, Bool.or_false]
    have e1 : (n.toList == x.toList) = (x.toList == n.toList) := by rw [Bool.eq_iff_iff, beq_iff_eq, beq_iff_eq]; exact ⟨Eq.symm, Eq.symm⟩
    rw [e1]
    cases hasB F x.toList <;> cases x.toList == n.toList <;> rfl
  refine ⟨?_, hk⟩
  have hz : zT.free.length = 0 := by rw [zT_free]; rfl
  rw [putOf_some h.read.1 zB_read ⟨hn, zT_val, hz⟩, limOf, if_pos, if_pos]
  · have := parse_back (s := mkT (Tm.put n.toList zT M)) (by show (Tm.put n.toList zT M).write.toArray.toList = _; rw [tm_write _ [] _ hT]) hTw (by omega) (by omega)
    rw [this]; rfl
  · rw [← tm_size _ [] _ hT]; omega
theorem FrOk.start {s : ByteArray} {m : Tm} (h : readTm s = some m) : FrOk m [] m ∧ mkT m = s := by
  obtain ⟨t, hp, ht, hts, _⟩ := readTm_inv h
  obtain ⟨hw, hd, hl⟩ := parse_wk hp
  refine ⟨⟨⟨t, hw, ht, hts, hl, hd⟩, ?_⟩, ?_⟩
  · exact (List.filter_eq_self.2 (fun x _ => rfl)).symm
  · have e1 := parse_write hp
    rw [← tm_write t [] m ht] at e1
    have : (mkT m).toList = s.toList := by rw [Go.ByteArray.toList_eq, Go.ByteArray.toList_eq, e1]; rfl
    rw [bytes_of_toList this, Go.ByteArray.toList_eq]
/-- The terms while the first names are put. -/
def frM (m : Tm) (F : List ByteArray) : Tm := F.foldl (fun k n => Tm.put n.toList zT k) m
theorem frM_snoc (m : Tm) (F : List ByteArray) (n : ByteArray) : frM m (F ++ [n]) = Tm.put n.toList zT (frM m F) := by
  unfold frM; rw [List.foldl_append]; rfl
theorem fr_ok {s : ByteArray} {m : Tm} (h : readTm s = some m) (F : List ByteArray) (hF : ∀ x ∈ F, nameB x.toList = true) : ∀ i, i ≤ F.length → FrOk m (F.take i) (frM m (F.take i))
  | 0, _ => (FrOk.start h).1
  | i + 1, hi => by
    obtain ⟨n, hn⟩ : ∃ n, F[i]? = some n := ⟨_, List.getElem?_eq_getElem (by omega)⟩
    rw [List.take_add_one, hn, Option.toList_some, frM_snoc]
    exact ((fr_ok h F hF i (by omega)).put (hF n (List.mem_of_getElem? hn))).2
/-- Lists in which nothing stands twice. -/
def ndB (l : List ByteArray) : Prop := ∀ i x, l[i]? = some x → hasB (l.take i) x.toList = false
theorem ded_nd : ∀ (l acc : List ByteArray), ndB acc → ndB (dedB acc l)
  | [], acc, h => by rw [dedB]; exact h
  | y :: l, acc, h => by
    rw [dedB]
    cases e : hasB acc y.toList with
    | true => rw [if_pos rfl]; exact ded_nd l acc h
    | false =>
      rw [if_neg (by decide)]
      refine ded_nd l (acc ++ [y]) (fun i x hx => ?_)
      by_cases hi : i < acc.length
      · rw [List.getElem?_append_left hi] at hx
        rw [List.take_append_of_le_length (by omega)]
        exact h i x hx
      · have hi2 : i = acc.length := by
          have := (List.getElem?_eq_some_iff.1 hx).1
          simp at this; omega
        subst hi2
        rw [List.getElem?_append_right (Nat.le_refl _)] at hx
        simp at hx; subst hx
        rw [List.take_append_of_le_length (Nat.le_refl _), List.take_of_length_le (Nat.le_refl _)]
        exact e
theorem sv_take {w : World} {p : Option Addr} {n c : Nat} {l : List ByteArray} (h : SV w p n c l) {i : Nat} (hi : i < n) : SV w p i c (l.take i) := by
  refine ⟨by rw [List.length_take, h.1]; omega, fun hp => by have := h.2.1 hp; omega, fun j x hj => ?_⟩
  rw [List.getElem?_take] at hj
  split at hj
  · exact h.2.2 j x hj
  · cases hj
/-- What the law FnFree asks of each name. -/
theorem fr_step {s : ByteArray} {m : Tm} (h : readTm s = some m) {i : Nat} {n : ByteArray} (hn : (dedB [] m.free)[i]? = some n) :
    nameB n.toList = true ∧ 1 ≤ usesOf s n ∧ hasB ((dedB [] m.free).take i) n.toList = false := by
  obtain ⟨t, hp, ht, _, _⟩ := readTm_inv h
  have hm : n ∈ m.free := by
    rcases ded_mem _ _ (List.mem_of_getElem? hn) with h | h
    · cases h
    · exact h
  have hnm : nameB n.toList = true := free_name t (by rw [← tm_free t [] m ht]; exact hm)
  refine ⟨hnm, ?_, ded_nd _ [] (fun i x hx => by simp at hx) i n hn⟩
  rw [usesOf_some h hnm]
  have := cntB_pos.2 (hasB_mem hm)
  omega
theorem fr_names {s : ByteArray} {m : Tm} (h : readTm s = some m) : ∀ x ∈ dedB [] m.free, nameB x.toList = true := fun x hx => by
  obtain ⟨i, hi⟩ := List.getElem?_of_mem hx
  exact (fr_step h hi).1
theorem fr_end {s : ByteArray} {m : Tm} (h : readTm s = some m) : closedOf (mkT (frM m (dedB [] m.free))) = true := by
  have h1 := fr_ok h _ (fr_names h) (dedB [] m.free).length (Nat.le_refl _)
  rw [List.take_of_length_le (Nat.le_refl _)] at h1
  unfold closedOf
  rw [h1.read.1]
  simp only
  have h2 : (frM m (dedB [] m.free)).free = [] := by
    rw [h1.free]
    rw [List.filter_eq_nil_iff]
    intro x hx
    rw [ded_has, show hasB [] x.toList = false from rfl, hasB_mem hx]
    simp
  rw [h2]; rfl
/-- In a closed term nothing can be put. -/
theorem cl_put {s x y : ByteArray} {m v : Tm} (h : readTm s = some m) (hf : m.free = []) (hy : readTm y = some v) (hx : nameB x.toList = true) (hv : v.isVal = true) (hvf : v.free = []) : putOf s x y = some s := by
  obtain ⟨t, hp, ht, _, hms⟩ := readTm_inv h
  rw [putOf_some h hy ⟨hx, hv, by rw [hvf]; rfl⟩, put_none _ _ m (tm_leafy t [] m ht) (by rw [hf]; rfl)]
  have e := (FrOk.start h).2
  rw [limOf, if_pos hms, e, hp]; rfl
theorem pB_wk : pTr.wk := by
  refine ⟨by decide, ⟨by decide, by decide⟩, ⟨by decide, by decide⟩, ⟨by decide, by decide⟩, trivial⟩
def kz (b : ByteArray) : Tm := .mk strBit b (-1) [] none []
theorem kz_val (b : ByteArray) : (kz b).isVal = true := by rw [kz, Tm.isVal, strBit_toList]; rfl
theorem kz_add (b : ByteArray) (st : St) : addK true (some (kz b)) st = some { st with kids := st.kids ++ [kz b] } := by rw [addK]; exact if_pos (kz_val b)
theorem kz_free (b : ByteArray) : (kz b).free = [] := by
  have : ¬ (strBit.toList = [110, 97, 109, 101] ∧ (-1 : Int) = -1) := by rw [strBit_toList]; decide
  rw [kz, Tm.free, if_neg this, Tm.frees]
def pT : Tm := .mk ⟨#[112, 97, 105, 114]⟩ ByteArray.empty 0 [] none [kz ⟨#[48]⟩, kz ⟨#[49]⟩]
theorem pTr_tm : pTr.tm [] = some pT := by
  have h0 : ∀ bd, (Tree.atom ⟨#[48]⟩).tm bd = some (kz ⟨#[48]⟩) := fun bd => by
    rw [Tree.tm, atomTm, if_pos (Or.inl (by rw [Go.ByteArray.toList_eq]))]; rfl
  have h1 : ∀ bd, (Tree.atom ⟨#[49]⟩).tm bd = some (kz ⟨#[49]⟩) := fun bd => by
    rw [Tree.tm, atomTm, if_pos (Or.inr (by rw [Go.ByteArray.toList_eq]))]; rfl
  have hs : shape (Tree.atom ⟨#[112, 97, 105, 114]⟩).text.toList = [.V, .V] := by rw [Tree.text, Go.ByteArray.toList_eq]; decide
  rw [pTr, Tree.tm, hs, if_neg (by decide), Tree.parts]
  simp only [h0, kz_add]
  rw [Tree.parts]
  simp only [h1, kz_add]
  rw [Tree.parts]
  rfl
theorem pB_read : ∃ v, readTm pB = some v ∧ v.isVal = true ∧ v.free = [] := by
  refine ⟨pT, read_back pB_wk (by decide) (by decide) (by decide) pTr_tm (by decide), ?_, ?_⟩
  · rw [pT, Tm.isVal, Go.ByteArray.toList_eq]; rfl
  · have : ¬ ((⟨#[112, 97, 105, 114]⟩ : ByteArray).toList = [110, 97, 109, 101] ∧ (0 : Int) = -1) := fun h => by cases h.2
    rw [pT, Tm.free, if_neg this, Tm.frees, Tm.frees, Tm.frees, kz_free, kz_free]; rfl
end Go.Proofs.YthpcmglnooemaaaGreatDoor
