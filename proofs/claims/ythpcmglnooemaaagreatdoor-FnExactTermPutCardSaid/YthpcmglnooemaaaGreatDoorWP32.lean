/- Merged: PutL, PutX. -/
import Derived.Test.YthpcmglnooemaaaGreatDoorWP31
import Derived.Test.YthpcmglnooemaaaGreatDoorWP26
import Derived.Test.YthpcmglnooemaaaGreatDoorWPSExtN
import Derived.Test.YthpcmglnooemaaaGreatDoorWP30
import Derived.Test.YthpcmglnooemaaaGreatDoorWP12
namespace Go.Proofs.YthpcmglnooemaaaGreatDoor
open Go.RowKit

def mkT (m : Tm) : ByteArray := ⟨m.write.toArray⟩
/-- The text of a term that was made, if it keeps the limits. -/
def limOf (m : Tm) : Option ByteArray := if m.size ≤ 1500 then (if (parse (mkT m)).isSome = true then some (mkT m) else none) else none
def OptPost (o : Option ByteArray) (w : World) (e : Ending) (w' : World) : Prop := e = .returned (.tuple #[.string (o.getD ByteArray.empty), .bool o.isSome]) ∧ Below w.heap.size w w'
/-- Whether an extent keeps the limits. -/
def keepB (e : Ex) : Bool := decide (e.a ≤ 1500) && decide (e.b ≤ 12000) && decide (e.n ≤ 100)
/-- A term of a tree keeps the limits where its extent does. -/
theorem lim_eq {T : Tree} {m : Tm} (hT : T.wk) (ht : T.tm [] = some m) : limOf m = if keepB m.ex = true then some (mkT m) else none := by
  have he := tm_ex T [] m ht
  have hz := tm_size T [] m ht
  have hw := tm_write T [] m ht
  have ea : m.ex.a = T.size := by rw [← he]; rfl
  have eb : m.ex.b = T.write.length := by rw [← he]; rfl
  have en : m.ex.n = T.dp - 1 := by rw [← he]; rfl
  have hd : (mkT m).data.toList = T.write := by show m.write.toArray.toList = _; rw [hw]
  unfold limOf keepB
  by_cases h1 : m.size ≤ 1500
  · rw [if_pos h1]
    by_cases h2 : T.write.length ≤ 12000 ∧ T.dp ≤ 101
    · rw [parse_back hd hT h2.2 h2.1, ea, eb, en]
      have e1 : decide (T.size ≤ 1500) = true := decide_eq_true (by omega)
      have e2 : decide (T.write.length ≤ 12000) = true := decide_eq_true h2.1
      have e3 : decide (T.dp - 1 ≤ 100) = true := decide_eq_true (by omega)
      rw [e1, e2, e3]; rfl
    · have hn : parse (mkT m) = none := by
        cases hp : parse (mkT m) with
        | none => rfl
        | some t =>
          obtain ⟨k1, k2, k3⟩ := parse_wk hp
          have k4 := parse_write hp
          rw [hd] at k4
          obtain rfl := write_inj hT k1 k4
          exact absurd ⟨k3, k2⟩ h2
      rw [hn, ea, eb, en]
      have e2 : (decide (T.write.length ≤ 12000) && decide (T.dp - 1 ≤ 100)) = false := by
        cases e1 : decide (T.write.length ≤ 12000) with
        | false => rfl
        | true =>
          rw [Bool.true_and]
          exact decide_eq_false (fun h => h2 ⟨of_decide_eq_true e1, by omega⟩)
      rw [Bool.and_assoc, e2, Bool.and_false]; rfl
  · rw [if_neg h1, ea]
    have e1 : decide (T.size ≤ 1500) = false := decide_eq_false (by omega)
    rw [e1]; rfl
set_option maxRecDepth 100000 in
set_option maxHeartbeats 1000000 in
theorem keepsLimits_any {w0 : World} {S : Nat → Prop} {m : Tm} {b : Nat} (hn : NIn w0 S m b) (hok : m.ex.ok) (w : World) (hk : Kept w0 w) (hw : w0.heap.size ≤ w.heap.size) :
    Calls Tryz.prog 90 #[.pointer (some ⟨b, 0, none⟩)] w fun e w' => e = .returned (.bool (keepB m.ex)) ∧ Below w.heap.size w w' := by
  have HC := hid (extent_any hn hok w hk hw)
  obtain ⟨E, hE⟩ : ∃ E, m.ex = E := ⟨_, rfl⟩
  rw [hE] at HC ⊢
  obtain ⟨a, l, n⟩ := E
  clear hn hok hk hE
  have HC2 := hid (show Calls Tryz.prog 52 #[.pointer (some ⟨b, 0, none⟩)] w fun e w' => e = .returned (.agg #[.int .i64 (a : Int), .int .i64 (l : Int), .int .i64 (n : Int)]) ∧ Below w.heap.size w w' from HC.out)
  clear HC
  have hcs : (¬ a ≤ 1500 ∧ keepB ⟨a, l, n⟩ = false) ∨ (a ≤ 1500 ∧ ¬ l ≤ 12000 ∧ keepB ⟨a, l, n⟩ = false) ∨ (a ≤ 1500 ∧ l ≤ 12000 ∧ ¬ n ≤ 100 ∧ keepB ⟨a, l, n⟩ = false) ∨ (a ≤ 1500 ∧ l ≤ 12000 ∧ n ≤ 100 ∧ keepB ⟨a, l, n⟩ = true) := by
    unfold keepB
    by_cases e1 : a ≤ 1500 <;> by_cases e2 : l ≤ 12000 <;> by_cases e3 : n ≤ 100 <;> simp [e1, e2, e3]
  rcases hcs with ⟨e1, e4⟩ | ⟨e1, e2, e4⟩ | ⟨e1, e2, e3, e4⟩ | ⟨e1, e2, e3, e4⟩
  · have g1 : ¬ (a : Int) ≤ 1500 := by omega
    have g2 : 1500 < (a : Int) := by omega
    rw [e4]
    go_enter Tryz.func90, Tryz.ntmps90
    go_wp2_with (go_at_call 52; refine HC2.out.mono ?_; rintro e w1 ⟨rfl, hb1⟩)
    go_ret
    exact ⟨rfl, hb1.alloc hb1.size _⟩
  · have g1 : (a : Int) ≤ 1500 := by omega
    have g2 : ¬ (l : Int) ≤ 12000 := by omega
    have g3 : 12000 < (l : Int) := by omega
    rw [e4]
    go_enter Tryz.func90, Tryz.ntmps90
    go_wp2_with (go_at_call 52; refine HC2.out.mono ?_; rintro e w1 ⟨rfl, hb1⟩)
    go_ret
    exact ⟨rfl, hb1.alloc hb1.size _⟩
  · have g1 : (a : Int) ≤ 1500 := by omega
    have g2 : (l : Int) ≤ 12000 := by omega
    have g3 : ¬ (n : Int) ≤ 100 := by omega
    have g4 : 100 < (n : Int) := by omega
    rw [e4]
    go_enter Tryz.func90, Tryz.ntmps90
    go_wp2_with (go_at_call 52; refine HC2.out.mono ?_; rintro e w1 ⟨rfl, hb1⟩)
    go_ret
    exact ⟨ret_bool (decide_eq_false (by omega)), hb1.alloc hb1.size _⟩
  · have g1 : (a : Int) ≤ 1500 := by omega
    have g2 : (l : Int) ≤ 12000 := by omega
    have g3 : (n : Int) ≤ 100 := by omega
    rw [e4]
    go_enter Tryz.func90, Tryz.ntmps90
    go_wp2_with (go_at_call 52; refine HC2.out.mono ?_; rintro e w1 ⟨rfl, hb1⟩)
    go_ret
    exact ⟨rfl, hb1.alloc hb1.size _⟩
set_option maxRecDepth 100000 in
set_option maxHeartbeats 1000000 in
theorem limitedText_any {w0 : World} {S : Nat → Prop} {m : Tm} {b : Nat} {T : Tree} (hn : NIn w0 S m b) (hT : T.wk) (ht : T.tm [] = some m) (hok : m.ex.ok) (w : World) (hk : Kept w0 w) (hw : w0.heap.size ≤ w.heap.size) :
    Calls Tryz.prog 60 #[.pointer (some ⟨b, 0, none⟩)] w (OptPost (limOf m) w) := by
  have HS := hid (keepsLimits_any hn hok w hk hw)
  rw [lim_eq hT ht]
  cases hkb : keepB m.ex with
  | true =>
    have hlen : m.write.length ≤ 20000 := by
      have h1 : m.ex.b ≤ 12000 := by
        unfold keepB at hkb
        simp only [Bool.and_eq_true, decide_eq_true_eq] at hkb
        exact hkb.1.2
      rw [tm_write T [] m ht]
      rw [← tm_ex T [] m ht] at h1
      have h2 : T.ex.b = T.write.length := rfl
      omega
    have HT := hid (fun W (hk2 : Kept w0 W) (hw2 : w0.heap.size ≤ W.heap.size) => text_big hn (tm_fit T [] m ht) hlen W hk2 hw2)
    have HK := hid hk
    rw [hkb] at HS
    rw [if_pos rfl]
    obtain ⟨X, hX⟩ : ∃ X, mkT m = X := ⟨_, rfl⟩
    rw [show (⟨m.write.toArray⟩ : ByteArray) = mkT m from rfl, hX] at HT
    rw [hX]
    clear hn hT ht hok hkb hk hX
    go_enter Tryz.func60, Tryz.ntmps60
    go_wp2_with (first
      | (go_at_call 46; have _ := hb1; refine (HT.out _ (HK.out.below hb1 hw) (Nat.le_trans hw hb1.size)).mono ?_; rintro e w2 ⟨rfl, hb2⟩)
      | (go_at_call 90; refine HS.out.mono ?_; rintro e w1 ⟨rfl, hb1⟩))
    go_ret2
    exact ⟨rfl, hb1.trans (hb2.mono hb1.size)⟩
  | false =>
    rw [hkb] at HS
    rw [if_neg (by decide)]
    clear hn hT ht hok hkb hk
    go_enter Tryz.func60, Tryz.ntmps60
    go_wp2_with (go_at_call 90; refine HS.out.mono ?_; rintro e w1 ⟨rfl, hb1⟩)
    go_ret2
    exact ⟨rfl, hb1⟩
end Go.Proofs.YthpcmglnooemaaaGreatDoor

namespace Go.Proofs.YthpcmglnooemaaaGreatDoor
open Go.RowKit

mutual
theorem tmput_size (s : List UInt8) (v : Tm) : ∀ m : Tm, (Tm.put s v m).size ≤ m.size * v.size
  | .mk hd a d bs ty ks => by
    have hv := tm_size_pos v
    have h := tmputs_size s v ks
    rw [Tm.put]
    split
    · rw [Tm.size]; exact Nat.le_mul_of_pos_left _ (by omega)
    · rw [Tm.size, Tm.size, Nat.add_mul]
      have := Nat.le_mul_of_pos_right (1 + bs.length + tyAtoms ty) hv
      omega
theorem tmputs_size (s : List UInt8) (v : Tm) : ∀ ks : List Tm, Tm.sizes (Tm.puts s v ks) ≤ Tm.sizes ks * v.size
  | [] => by simp [Tm.puts, Tm.sizes]
  | k :: ks => by
    have h1 := tmput_size s v k
    have h2 := tmputs_size s v ks
    rw [Tm.puts, Tm.sizes, Tm.sizes, Nat.add_mul]; omega
end
/-- What TermPut answers. -/
def putOf (s x y : ByteArray) : Option ByteArray := match readTm s, readTm y with
  | some m, some v => if nameB x.toList = true ∧ v.isVal = true ∧ v.free.length = 0 then limOf (Tm.put x.toList v m) else none
  | _, _ => none
theorem putOf_none1 {s x y : ByteArray} (h : readTm s = none) : putOf s x y = none := by rw [putOf, h]
theorem putOf_none2 {s x y : ByteArray} (h : readTm y = none) : putOf s x y = none := by rw [putOf, h]; cases readTm s <;> rfl
theorem putOf_no {s x y : ByteArray} {m v : Tm} (h1 : readTm s = some m) (h2 : readTm y = some v) (h : ¬ (nameB x.toList = true ∧ v.isVal = true ∧ v.free.length = 0)) : putOf s x y = none := by rw [putOf, h1, h2]; exact if_neg h
theorem putOf_some {s x y : ByteArray} {m v : Tm} (h1 : readTm s = some m) (h2 : readTm y = some v) (h : nameB x.toList = true ∧ v.isVal = true ∧ v.free.length = 0) : putOf s x y = limOf (Tm.put x.toList v m) := by rw [putOf, h1, h2]; exact if_pos h
/-- What is so of a term that put makes. -/
theorem put_made {s x y : ByteArray} {m v : Tm} (h1 : readTm s = some m) (h2 : readTm y = some v) (h : nameB x.toList = true ∧ v.isVal = true ∧ v.free.length = 0) :
    ∃ T : Tree, T.wk ∧ T.tm [] = some (Tm.put x.toList v m) ∧ (Tm.put x.toList v m).ex.ok ∧ m.leafy := by
  obtain ⟨t, hp, ht, _, hms⟩ := readTm_inv h1
  obtain ⟨vt, hvp, hvt, _, hvs⟩ := readTm_inv h2
  have hf : vt.free [] = [] := by rw [← tm_free vt [] v hvt]; exact List.length_eq_zero_iff.1 h.2.2
  have hT := (put_tm h.1 h.2.1 (closed_all hvt hf) t [] m ht).1 (by simp [hasB])
  have hz := tm_size _ _ _ hT
  have hl := tm_wlen _ _ _ hT
  have h3 := tmput_size x.toList v m
  have h4 := Nat.mul_le_mul hms hvs
  have he := tm_ex _ _ _ hT
  have hd := dp_len (Tree.put x.toList vt t)
  refine ⟨_, put_wk (parse_wk hvp).1 t (parse_wk hp).1, hT, ?_, tm_leafy t [] m ht⟩
  rw [← he]
  exact ⟨by show (Tree.put x.toList vt t).size ≤ _; omega, by show (Tree.put x.toList vt t).write.length ≤ _; omega, by show (Tree.put x.toList vt t).dp - 1 ≤ _; omega⟩
theorem tmpost_gen {o : Option Tm} {w w' : World} {e : Ending} (h : TmPost o w e w') : ∃ P, e = .returned (.tuple #[.pointer P, .bool o.isSome]) ∧ Below w.heap.size w w' := by
  cases o with
  | none => obtain ⟨rfl, hb⟩ := h.none; exact ⟨_, rfl, hb⟩
  | some m => obtain ⟨a, rfl, hb, _⟩ := h.some; exact ⟨_, rfl, hb⟩

set_option maxRecDepth 100000 in
set_option maxHeartbeats 2000000 in
theorem implTermPut_any (s x y : ByteArray) (hs : s.size ≤ 400000000) (hx : x.size ≤ 400000000) (hy : y.size ≤ 400000000) (w : World) : Calls Tryz.prog 27 #[.string s, .string x, .string y] w (OptPost (putOf s x y) w) := by
  have HC1 := hid (fun W => readTerm_any s (by omega) W)
  have HC2 := hid (fun W => readClosedV_any y (by omega) W)
  have HC2g := hid (fun W => (show Calls Tryz.prog 57 #[.string y, .string strV, .slice none 0 0] W fun e w' => ∃ P, e = .returned (.tuple #[.pointer P, .bool (clV y).isSome]) ∧ Below W.heap.size W w' from (readClosedV_any y (by omega) W).mono fun e w' h => tmpost_gen h))
  have HNM := hid (fun W => isName_any x (by omega) W)
  cases hr1 : readTm s with
  | none =>
    have HR1 := hid hr1
    rw [putOf_none1 hr1]
    obtain ⟨d, hd⟩ : ∃ d, (clV y).isSome = d := ⟨_, rfl⟩
    rw [hd] at HC2g
    clear hr1 hd HC2 HNM
    go_enter Tryz.func27, Tryz.ntmps27
    go_wp2_with fail
    go_at_call 42
    refine (HC1.out _).mono ?_
    rintro e w1 hp1
    rw [HR1.out] at hp1
    obtain ⟨rfl, hb1⟩ := hp1.none
    have HB1 := hid hb1
    clear hp1 hb1
    go_wp2_with fail
    go_at_call 57
    refine (HC2g.out _).mono ?_
    rintro e w2 ⟨P, rfl, hb2⟩
    have HB2 := hid (HB1.out.trans (hb2.mono HB1.out.size))
    clear hb2
    go_wp2_with fail
    go_ret2
    exact ⟨rfl, HB2.out⟩
  | some m =>
    have HR1 := hid hr1
    obtain ⟨_, _, _, _, hms⟩ := readTm_inv hr1
    cases hn : nameB x.toList with
    | false =>
      have hpo : putOf s x y = none := by
        cases hr2 : readTm y with
        | none => exact putOf_none2 hr2
        | some v => exact putOf_no hr1 hr2 (fun e => by rw [hn] at e; cases e.1)
      rw [hpo]
      rw [hn] at HNM
      obtain ⟨d, hd⟩ : ∃ d, (clV y).isSome = d := ⟨_, rfl⟩
      rw [hd] at HC2g
      clear hr1 hd HC2 hpo hn hms
      go_enter Tryz.func27, Tryz.ntmps27
      go_wp2_with fail
      go_at_call 42
      refine (HC1.out _).mono ?_
      rintro e w1 hp1
      rw [HR1.out] at hp1
      obtain ⟨b1, rfl, hb1, _⟩ := hp1.some
      have HB1 := hid hb1
      clear hp1 hb1
      go_wp2_with fail
      go_at_call 57
      refine (HC2g.out _).mono ?_
      rintro e w2 ⟨P, rfl, hb2⟩
      have HB2 := hid (HB1.out.trans (hb2.mono HB1.out.size))
      clear hb2
      go_wp2_with fail
      go_at_call 58
      refine (HNM.out _).mono ?_
      rintro e w3 ⟨rfl, hb3⟩
      have HB3 := hid (HB2.out.trans (hb3.mono HB2.out.size))
      clear hb3
      go_wp2_with fail
      go_ret2
      exact ⟨rfl, HB3.out⟩
    | true =>
      rw [hn] at HNM
      cases hcv : clV y with
      | none =>
        have hpo : putOf s x y = none := by
          cases hr2 : readTm y with
          | none => exact putOf_none2 hr2
          | some v =>
            refine putOf_no hr1 hr2 (fun e => ?_)
            have h2 : clV y = some v := by rw [clV, hr2]; exact if_pos ⟨e.2.1, List.length_eq_zero_iff.1 e.2.2⟩
            rw [h2] at hcv; cases hcv
        rw [hpo]
        rw [hcv] at HC2g
        simp only [Option.isSome] at HC2g
        clear hr1 hcv HC2 hpo hn hms
        go_enter Tryz.func27, Tryz.ntmps27
        go_wp2_with fail
        go_at_call 42
        refine (HC1.out _).mono ?_
        rintro e w1 hp1
        rw [HR1.out] at hp1
        obtain ⟨b1, rfl, hb1, _⟩ := hp1.some
        have HB1 := hid hb1
        clear hp1 hb1
        go_wp2_with fail
        go_at_call 57
        refine (HC2g.out _).mono ?_
        rintro e w2 ⟨P, rfl, hb2⟩
        have HB2 := hid (HB1.out.trans (hb2.mono HB1.out.size))
        clear hb2
        go_wp2_with fail
        go_at_call 58
        refine (HNM.out _).mono ?_
        rintro e w3 ⟨rfl, hb3⟩
        have HB3 := hid (HB2.out.trans (hb3.mono HB2.out.size))
        clear hb3
        go_wp2_with fail
        go_ret2
        exact ⟨rfl, HB3.out⟩
      | some v =>
        have hr2 : readTm y = some v ∧ v.isVal = true ∧ v.free = [] := by
          rw [clV] at hcv
          cases hr2 : readTm y with
          | none => rw [hr2] at hcv; cases hcv
          | some v' =>
            rw [hr2] at hcv
            simp only at hcv
            split at hcv
            · rename_i c; obtain rfl := Option.some.inj hcv; exact ⟨rfl, c.1, c.2⟩
            · cases hcv
        obtain ⟨hr2, hv, hf⟩ := hr2
        have hf0 : v.free.length = 0 := by rw [hf]; rfl
        obtain ⟨T, hT, ht, hok, hlf⟩ := put_made hr1 hr2 ⟨hn, hv, hf0⟩
        rw [putOf_some hr1 hr2 ⟨hn, hv, hf0⟩]
        have HCV := hid hcv
        have HT := hid hT
        have HTT := hid ht
        have HOK := hid hok
        have HLF := hid hlf
        clear hr1 hcv hn hr2 hv hf hf0 hT ht hok hlf HC2g
        go_enter Tryz.func27, Tryz.ntmps27
        go_wp2_with fail
        go_at_call 42
        refine (HC1.out _).mono ?_
        rintro e w1 hp1
        rw [HR1.out] at hp1
        obtain ⟨b1, rfl, hb1, hn1⟩ := hp1.some
        have HB1 := hid hb1
        have HN1 := hid hn1
        clear hp1 hb1 hn1
        go_wp2_with fail
        go_at_call 57
        refine (HC2.out _).mono ?_
        rintro e w2 hp2
        rw [HCV.out] at hp2
        obtain ⟨b2, rfl, hb2, hn2⟩ := hp2.some
        have HB2 := hid (HB1.out.trans (hb2.mono HB1.out.size))
        have HN2 := hid hn2
        have HN12 := hid (HN1.out.keep (fun k _ hl => hb2.block k hl) (fun _ hk _ => hk))
        clear hp2 hb2 hn2
        go_wp2_with fail
        go_at_call 58
        refine (HNM.out _).mono ?_
        rintro e w3 ⟨rfl, hb3⟩
        have HB3 := hid (HB2.out.trans (hb3.mono HB2.out.size))
        have HK3 := hid (Kept.of_below hb3 (Nat.le_refl _))
        have hz3 := hb3.size
        clear hb3
        go_wp2_with fail
        go_at_call 59
        refine (put_any HN12.out x HN2.out HLF.out (by omega) w3 HK3.out hz3).mono ?_
        rintro e w4 ⟨b4, rfl, hn4, hb4⟩
        have HB4 := hid (HB3.out.trans (hb4.mono HB3.out.size))
        have HN4 := hid hn4
        clear hn4 hb4
        go_wp2_with fail
        go_at_call 60
        refine (limitedText_any HN4.out HT.out HTT.out HOK.out w4 (Kept.refl _) (Nat.le_refl _)).mono ?_
        rintro e w5 ⟨rfl, hb5⟩
        have HB5 := hid (HB4.out.trans (hb5.mono HB4.out.size))
        clear hb5
        go_wp2_with fail
        go_ret2
        exact ⟨rfl, HB5.out⟩
end Go.Proofs.YthpcmglnooemaaaGreatDoor
