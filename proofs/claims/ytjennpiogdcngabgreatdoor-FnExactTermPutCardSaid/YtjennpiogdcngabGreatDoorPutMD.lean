/- TermPut, merged: PutL, PutX, PutM, PutY, PutZ, RowExactTermPut. -/
import Derived.Test.YtjennpiogdcngabGreatDoorPutMI
import Derived.Test.YtjennpiogdcngabGreatDoorPutMB
import Derived.Test.YtjennpiogdcngabGreatDoorPutMA
import Derived.Test.YtjennpiogdcngabGreatDoorPutMC
import Derived.Test.YtjennpiogdcngabGreatDoorRows
import Derived.Test.YtjennpiogdcngabGreatDoorTie
import Derived.Test.YtjennpiogdcngabGreatDoorCards
import Derived.ProofKit
import Derived.Lay
import Derived.LaidMore
import Derived.SevenTiedAt
import Derived.OpenShut
import Derived.ShutString
namespace Go.Proofs.YtjennpiogdcngabGreatDoor
open Go.RowKit

def mkT (m : Tm) : ByteArray := ⟨m.write.toArray⟩
/-- The text of a term that was made, if it keeps the limits. -/
def limOf (m : Tm) : Option ByteArray := if m.size ≤ 1500 then (if (parse (mkT m)).isSome = true then some (mkT m) else none) else none
def OptPost (o : Option ByteArray) (w : World) (e : Ending) (w' : World) : Prop := e = .returned (.tuple #[.string (o.getD ByteArray.empty), .bool o.isSome]) ∧ Below w.heap.size w w'
set_option maxRecDepth 100000 in
set_option maxHeartbeats 1000000 in
theorem limitedText_any {w0 : World} {S : Nat → Prop} {m : Tm} {b : Nat} (hn : NIn w0 S m b) (hf : m.fit) (hms : m.size ≤ 400000000) (hwl : m.size ≤ 1500 → m.write.length ≤ 20000) (w : World) (hk : Kept w0 w) (hw : w0.heap.size ≤ w.heap.size) :
    Calls Tryz.prog 43 #[.pointer (some ⟨b, 0, none⟩)] w (OptPost (limOf m) w) := by
  have HS := hid (size_any hn hms w hk hw)
  by_cases h : m.size ≤ 1500
  · have HT := hid (fun W (hk2 : Kept w0 W) (hw2 : w0.heap.size ≤ W.heap.size) => text_big hn hf (hwl h) W hk2 hw2)
    have hz : (mkT m).size = m.write.length := by simp [mkT, ByteArray.size]
    have HP := hid (fun W => readPhrase_any (mkT m) (by have := hwl h; omega) W)
    have HK := hid hk
    cases hp : parse (mkT m) with
    | none =>
      have HL := hid (show limOf m = none by rw [limOf, if_pos h, hp]; rfl)
      rw [hp] at HP
      rw [HL.out]
      obtain ⟨X, hX⟩ : ∃ X, mkT m = X := ⟨_, rfl⟩
      rw [show (⟨m.write.toArray⟩ : ByteArray) = mkT m from rfl, hX] at HT
      rw [hX] at HP
      have hzi : (m.size : Int) ≤ 1500 := by omega
      clear hn hf hms hwl hz hp hk hX
      go_enter Tryz.func43, Tryz.ntmps43
      go_wp2_with (first
        | (go_at_call 66; have _ := hb2; refine (HP.out _).mono ?_; rintro e w3 hp3; obtain ⟨pa, pp, pl, pc, rfl, hpl, hb3⟩ := hp3.none; clear hp3)
        | (go_at_call 30; have _ := hb1; refine (HT.out _ (HK.out.below hb1 hw) (Nat.le_trans hw hb1.size)).mono ?_; rintro e w2 ⟨rfl, hb2⟩)
        | (go_at_call 87; refine HS.out.mono ?_; rintro e w1 ⟨rfl, hb1⟩))
      go_ret2
      have z1 := hb1.size; have z2 := hb2.size; have z3 := hb3.size
      exact ⟨rfl, (hb1.trans ((hb2.trans (hb3.mono hb2.size)).mono hb1.size)).alloc (by omega) _⟩
    | some t =>
      have HL := hid (show limOf m = some (mkT m) by rw [limOf, if_pos h, hp]; rfl)
      rw [hp] at HP
      rw [HL.out]
      obtain ⟨X, hX⟩ : ∃ X, mkT m = X := ⟨_, rfl⟩
      rw [show (⟨m.write.toArray⟩ : ByteArray) = mkT m from rfl, hX] at HT
      rw [hX] at HP ⊢
      have hzi : (m.size : Int) ≤ 1500 := by omega
      clear hn hf hms hwl hz hp hk hX
      go_enter Tryz.func43, Tryz.ntmps43
      go_wp2_with (first
        | (go_at_call 66; have _ := hb2; refine (HP.out _).mono ?_; rintro e w3 hp3; obtain ⟨pa, pp, pl, pc, rfl, hb3, _⟩ := hp3.some; clear hp3)
        | (go_at_call 30; have _ := hb1; refine (HT.out _ (HK.out.below hb1 hw) (Nat.le_trans hw hb1.size)).mono ?_; rintro e w2 ⟨rfl, hb2⟩)
        | (go_at_call 87; refine HS.out.mono ?_; rintro e w1 ⟨rfl, hb1⟩))
      go_ret2
      have z1 := hb1.size; have z2 := hb2.size; have z3 := hb3.size
      exact ⟨rfl, (hb1.trans ((hb2.trans (hb3.mono hb2.size)).mono hb1.size)).alloc (by omega) _⟩
  · have HL := hid (show limOf m = none by rw [limOf, if_neg h])
    have hzi : 1500 < (m.size : Int) := by omega
    rw [HL.out]
    clear hn hf hms hwl h hk
    go_enter Tryz.func43, Tryz.ntmps43
    go_wp2_with (go_at_call 87; refine HS.out.mono ?_; rintro e w1 ⟨rfl, hb1⟩)
    go_ret2
    exact ⟨rfl, hb1⟩
end Go.Proofs.YtjennpiogdcngabGreatDoor

namespace Go.Proofs.YtjennpiogdcngabGreatDoor
open Go.RowKit

mutual
theorem tmput_size (s : List UInt8) (v : Tm) : ∀ m : Tm, (Tm.put s v m).size ≤ m.size * v.size
  | .mk hd a d bs ty ks => by
    have hv := tm_size_pos v
    have h := tmputs_size s v ks
    rw [Tm.put]
    split
    · rw [Tm.size]; exact Nat.le_mul_of_pos_left _ (by omega)
    · rw [Tm.size, Tm.size, Nat.add_mul]
      have := Nat.le_mul_of_pos_right (1 + bs.length + tyAtoms ty) hv
      omega
theorem tmputs_size (s : List UInt8) (v : Tm) : ∀ ks : List Tm, Tm.sizes (Tm.puts s v ks) ≤ Tm.sizes ks * v.size
  | [] => by simp [Tm.puts, Tm.sizes]
  | k :: ks => by
    have h1 := tmput_size s v k
    have h2 := tmputs_size s v ks
    rw [Tm.puts, Tm.sizes, Tm.sizes, Nat.add_mul]; omega
end
/-- What TermPut answers. -/
def putOf (s x y : ByteArray) : Option ByteArray := match readTm s, readTm y with
  | some m, some v => if nameB x.toList = true ∧ v.isVal = true ∧ v.free.length = 0 then limOf (Tm.put x.toList v m) else none
  | _, _ => none
theorem putOf_none1 {s x y : ByteArray} (h : readTm s = none) : putOf s x y = none := by rw [putOf, h]
theorem putOf_none2 {s x y : ByteArray} (h : readTm y = none) : putOf s x y = none := by rw [putOf, h]; cases readTm s <;> rfl
theorem putOf_no {s x y : ByteArray} {m v : Tm} (h1 : readTm s = some m) (h2 : readTm y = some v) (h : ¬ (nameB x.toList = true ∧ v.isVal = true ∧ v.free.length = 0)) : putOf s x y = none := by rw [putOf, h1, h2]; exact if_neg h
theorem putOf_some {s x y : ByteArray} {m v : Tm} (h1 : readTm s = some m) (h2 : readTm y = some v) (h : nameB x.toList = true ∧ v.isVal = true ∧ v.free.length = 0) : putOf s x y = limOf (Tm.put x.toList v m) := by rw [putOf, h1, h2]; exact if_pos h
/-- What is so of a term that put makes. -/
theorem put_made {s x y : ByteArray} {m v : Tm} (h1 : readTm s = some m) (h2 : readTm y = some v) (h : nameB x.toList = true ∧ v.isVal = true ∧ v.free.length = 0) :
    (Tm.put x.toList v m).fit ∧ (Tm.put x.toList v m).size ≤ 400000000 ∧ ((Tm.put x.toList v m).size ≤ 1500 → (Tm.put x.toList v m).write.length ≤ 20000) := by
  obtain ⟨t, hp, ht, _, hms⟩ := readTm_inv h1
  obtain ⟨vt, hvp, hvt, _, hvs⟩ := readTm_inv h2
  have hf : vt.free [] = [] := by rw [← tm_free vt [] v hvt]; exact List.length_eq_zero_iff.1 h.2.2
  have hT := (put_tm h.1 h.2.1 (closed_all hvt hf) t [] m ht).1 (by simp [hasB])
  have hz := tm_size _ _ _ hT
  have hl := tm_wlen _ _ _ hT
  have hw := tm_write _ _ _ hT
  have h3 := tmput_size x.toList v m
  have h4 := Nat.mul_le_mul hms hvs
  exact ⟨tm_fit _ _ _ hT, by omega, fun h5 => by rw [hw]; omega⟩

set_option maxRecDepth 100000 in
set_option maxHeartbeats 2000000 in
theorem implTermPut_any (s x y : ByteArray) (hs : s.size ≤ 400000000) (hx : x.size ≤ 400000000) (hy : y.size ≤ 400000000) (w : World) : Calls Tryz.prog 23 #[.string s, .string x, .string y] w (OptPost (putOf s x y) w) := by
  have HC1 := hid (fun W => readTerm_any s (by omega) W)
  have HC2 := hid (fun W => readTerm_any y (by omega) W)
  have HNM := hid (fun W => isName_any x (by omega) W)
  cases hr1 : readTm s with
  | none =>
    have HR1 := hid hr1
    rw [putOf_none1 hr1]
    cases hr2 : readTm y with
    | none =>
      have HR2 := hid hr2
      clear hr1 hr2
      go_enter Tryz.func23, Tryz.ntmps23
      go_wp2_with (first
        | (go_at_call 27; first | (have _ := hb1; refine (HC2.out _).mono ?_; rintro e w2 hp2; rw [HR2.out] at hp2; obtain ⟨rfl, hb2⟩ := hp2.none; clear hp2) | (refine (HC1.out _).mono ?_; rintro e w1 hp1; rw [HR1.out] at hp1; obtain ⟨rfl, hb1⟩ := hp1.none; clear hp1)))
      go_ret2
      exact ⟨rfl, hb1.trans (hb2.mono hb1.size)⟩
    | some v =>
      have HR2 := hid hr2
      clear hr1 hr2
      go_enter Tryz.func23, Tryz.ntmps23
      go_wp2_with (first
        | (go_at_call 27; first | (have _ := hb1; refine (HC2.out _).mono ?_; rintro e w2 hp2; rw [HR2.out] at hp2; obtain ⟨b2, rfl, hb2, hn2⟩ := hp2.some; have HN2 := hid hn2; clear hp2 hn2) | (refine (HC1.out _).mono ?_; rintro e w1 hp1; rw [HR1.out] at hp1; obtain ⟨rfl, hb1⟩ := hp1.none; clear hp1)))
      go_ret2
      exact ⟨rfl, hb1.trans (hb2.mono hb1.size)⟩
  | some m =>
    have HR1 := hid hr1
    cases hr2 : readTm y with
    | none =>
      have HR2 := hid hr2
      rw [putOf_none2 hr2]
      clear hr1 hr2
      cases hn : nameB x.toList with
      | false =>
        rw [hn] at HNM
        go_enter Tryz.func23, Tryz.ntmps23
        go_wp2_with (first
          | (go_at_call 56; have _ := hb2; refine (HNM.out _).mono ?_; rintro e w3 ⟨rfl, hb3⟩)
          | (go_at_call 27; first | (have _ := hb1; refine (HC2.out _).mono ?_; rintro e w2 hp2; rw [HR2.out] at hp2; obtain ⟨rfl, hb2⟩ := hp2.none; clear hp2) | (refine (HC1.out _).mono ?_; rintro e w1 hp1; rw [HR1.out] at hp1; obtain ⟨b1, rfl, hb1, hn1⟩ := hp1.some; have HN1 := hid hn1; clear hp1 hn1)))
        go_ret2
        exact ⟨rfl, (hb1.trans (hb2.mono hb1.size)).trans (hb3.mono (Nat.le_trans hb1.size hb2.size))⟩
      | true =>
        rw [hn] at HNM
        go_enter Tryz.func23, Tryz.ntmps23
        go_wp2_with (first
          | (go_at_call 56; have _ := hb2; refine (HNM.out _).mono ?_; rintro e w3 ⟨rfl, hb3⟩)
          | (go_at_call 27; first | (have _ := hb1; refine (HC2.out _).mono ?_; rintro e w2 hp2; rw [HR2.out] at hp2; obtain ⟨rfl, hb2⟩ := hp2.none; clear hp2) | (refine (HC1.out _).mono ?_; rintro e w1 hp1; rw [HR1.out] at hp1; obtain ⟨b1, rfl, hb1, hn1⟩ := hp1.some; have HN1 := hid hn1; clear hp1 hn1)))
        go_ret2
        exact ⟨rfl, (hb1.trans (hb2.mono hb1.size)).trans (hb3.mono (Nat.le_trans hb1.size hb2.size))⟩
    | some v =>
      have HR2 := hid hr2
      obtain ⟨_, _, _, _, hvs⟩ := readTm_inv hr2
      obtain ⟨_, _, _, _, hms⟩ := readTm_inv hr1
      cases hn : nameB x.toList with
      | false =>
        rw [hn] at HNM
        rw [putOf_no hr1 hr2 (fun e => by rw [hn] at e; cases e.1)]
        clear hr1 hr2
        go_enter Tryz.func23, Tryz.ntmps23
        go_wp2_with (first
          | (go_at_call 56; have _ := hb2; refine (HNM.out _).mono ?_; rintro e w3 ⟨rfl, hb3⟩)
          | (go_at_call 27; first | (have _ := hb1; refine (HC2.out _).mono ?_; rintro e w2 hp2; rw [HR2.out] at hp2; obtain ⟨b2, rfl, hb2, hn2⟩ := hp2.some; have HN2 := hid hn2; clear hp2 hn2) | (refine (HC1.out _).mono ?_; rintro e w1 hp1; rw [HR1.out] at hp1; obtain ⟨b1, rfl, hb1, hn1⟩ := hp1.some; have HN1 := hid hn1; clear hp1 hn1)))
        go_ret2
        exact ⟨rfl, (hb1.trans (hb2.mono hb1.size)).trans (hb3.mono (Nat.le_trans hb1.size hb2.size))⟩
      | true =>
        rw [hn] at HNM
        have hsv : (strV.toList == [118, 97, 108, 117, 101]) = true := by rw [strV_toList]; rfl
        have hsc : (strC.toList == [118, 97, 108, 117, 101]) = false := by rw [strC_toList]; rfl
        cases hv : v.isVal with
        | false =>
          rw [putOf_no hr1 hr2 (fun e => by rw [hv] at e; cases e.2.1)]
          have HSO := hid (fun (W : World) (S : Nat → Prop) (a : Nat) (hn : NIn W S v a) => (show Calls Tryz.prog 45 #[.pointer (some ⟨a, 0, none⟩)] W fun e w' => e = .returned (.string strC) ∧ W = w' from by have := sort_node hn; rw [hv] at this; exact this))
          clear hr1 hr2
          go_enter Tryz.func23, Tryz.ntmps23
          go_wp2_with (first
            | (go_at_call 45; have _ := hb3; refine (HSO.out _ _ _ (HN2.out.keep (fun k _ hl => hb3.block k hl) (fun _ hk _ => hk))).mono ?_; rintro e w3' ⟨rfl, rfl⟩)
            | (go_at_call 56; have _ := hb2; refine (HNM.out _).mono ?_; rintro e w3 ⟨rfl, hb3⟩)
            | (go_at_call 27; first | (have _ := hb1; refine (HC2.out _).mono ?_; rintro e w2 hp2; rw [HR2.out] at hp2; obtain ⟨b2, rfl, hb2, hn2⟩ := hp2.some; have HN2 := hid hn2; clear hp2 hn2) | (refine (HC1.out _).mono ?_; rintro e w1 hp1; rw [HR1.out] at hp1; obtain ⟨b1, rfl, hb1, hn1⟩ := hp1.some; have HN1 := hid hn1; clear hp1 hn1)))
          go_ret2
          exact ⟨rfl, (hb1.trans (hb2.mono hb1.size)).trans (hb3.mono (Nat.le_trans hb1.size hb2.size))⟩
        | true =>
          have HSO := hid (fun (W : World) (S : Nat → Prop) (a : Nat) (hn : NIn W S v a) => (show Calls Tryz.prog 45 #[.pointer (some ⟨a, 0, none⟩)] W fun e w' => e = .returned (.string strV) ∧ W = w' from by have := sort_node hn; rw [hv] at this; exact this))
          by_cases hf : v.free.length = 0
          · rw [putOf_some hr1 hr2 ⟨hn, hv, hf⟩]
            obtain ⟨hm1, hm2, hm3⟩ := put_made hr1 hr2 ⟨hn, hv, hf⟩
            have hf0 : v.free = [] := List.length_eq_zero_iff.1 hf
            have HFR := hid hf0
            have HM1 := hid hm1
            have HM3 := hid hm3
            clear hr1 hr2 hf hf0 hm1 hm3
            go_enter Tryz.func23, Tryz.ntmps23
            go_wp2_with (first
              | (go_at_call 43; have _ := hb5; refine (limitedText_any HN5.out HM1.out hm2 HM3.out _ (Kept.refl _) (Nat.le_refl _)).mono ?_; rintro e w6 ⟨rfl, hb6⟩)
              | (go_at_call 57; have _ := hb4; refine (put_any (HN1.out.keep (fun k _ hl => hb2.block k hl) (fun _ hk _ => hk)) x HN2.out (by omega) _ (Kept.of_below (hb3.trans (hb4.mono hb3.size)) (Nat.le_refl _)) (Nat.le_trans hb3.size hb4.size)).mono ?_; rintro e w5 ⟨b5, rfl, hn5, hb5⟩; have HN5 := hid hn5; clear hn5)
              | (go_at_call 28; have _ := hb3; refine (freeNames_any HN2.out (by omega) _ (Kept.of_below hb3 (Nat.le_refl _)) hb3.size).mono ?_; rintro e w4 hp4; rw [HFR.out] at hp4; obtain ⟨q4, c4, rfl, hsv4, hb4⟩ := hp4.sv; clear hp4 hsv4)
              | (go_at_call 45; have _ := hb3; refine (HSO.out _ _ _ (HN2.out.keep (fun k _ hl => hb3.block k hl) (fun _ hk _ => hk))).mono ?_; rintro e w3' ⟨rfl, rfl⟩)
              | (go_at_call 56; have _ := hb2; refine (HNM.out _).mono ?_; rintro e w3 ⟨rfl, hb3⟩)
              | (go_at_call 27; first | (have _ := hb1; refine (HC2.out _).mono ?_; rintro e w2 hp2; rw [HR2.out] at hp2; obtain ⟨b2, rfl, hb2, hn2⟩ := hp2.some; have HN2 := hid hn2; clear hp2 hn2) | (refine (HC1.out _).mono ?_; rintro e w1 hp1; rw [HR1.out] at hp1; obtain ⟨b1, rfl, hb1, hn1⟩ := hp1.some; have HN1 := hid hn1; clear hp1 hn1)))
            go_ret2
            have z1 := hb1.size; have z2 := hb2.size; have z3 := hb3.size; have z4 := hb4.size; have z5 := hb5.size
            exact ⟨rfl, hb1.trans ((hb2.mono z1).trans ((hb3.mono (by omega)).trans ((hb4.mono (by omega)).trans ((hb5.mono (by omega)).trans (hb6.mono (by omega))))))⟩
          · rw [putOf_no hr1 hr2 (fun e => hf e.2.2)]
            obtain ⟨F, hF⟩ : ∃ F, v.free = F := ⟨_, rfl⟩
            have HFR := hid hF
            rw [hF] at hf
            have hfb : F.length ≤ 1500 := by rw [← hF]; have := free_length v; omega
            have hfi : ((F.length : Int) != 0) = true := by simp; intro e; rw [e] at hf; exact hf rfl
            clear hr1 hr2 hF
            go_enter Tryz.func23, Tryz.ntmps23
            go_wp2_with (first
              | (go_at_call 28; have _ := hb3; refine (freeNames_any HN2.out (by omega) _ (Kept.of_below hb3 (Nat.le_refl _)) hb3.size).mono ?_; rintro e w4 hp4; rw [HFR.out] at hp4; obtain ⟨q4, c4, rfl, hsv4, hb4⟩ := hp4.sv; clear hp4 hsv4)
              | (go_at_call 45; have _ := hb3; refine (HSO.out _ _ _ (HN2.out.keep (fun k _ hl => hb3.block k hl) (fun _ hk _ => hk))).mono ?_; rintro e w3' ⟨rfl, rfl⟩)
              | (go_at_call 56; have _ := hb2; refine (HNM.out _).mono ?_; rintro e w3 ⟨rfl, hb3⟩)
              | (go_at_call 27; first | (have _ := hb1; refine (HC2.out _).mono ?_; rintro e w2 hp2; rw [HR2.out] at hp2; obtain ⟨b2, rfl, hb2, hn2⟩ := hp2.some; have HN2 := hid hn2; clear hp2 hn2) | (refine (HC1.out _).mono ?_; rintro e w1 hp1; rw [HR1.out] at hp1; obtain ⟨b1, rfl, hb1, hn1⟩ := hp1.some; have HN1 := hid hn1; clear hp1 hn1)))
            go_ret2
            exact ⟨rfl, (hb1.trans (hb2.mono hb1.size)).trans ((hb3.trans (hb4.mono hb3.size)).mono (Nat.le_trans hb1.size hb2.size))⟩
end Go.Proofs.YtjennpiogdcngabGreatDoor

namespace Go.Proofs.YtjennpiogdcngabGreatDoor
open Go.RowKit

/-- THE MODEL's PUT. -/
theorem l2Put_any (s : ByteArray) {w0 : World} {S S2 : Nat → Prop} {t vt : Tree} {h vh : Hd} (ht : TIn w0 S t h) (hv : TIn w0 S2 vt vh) : t.srt ≠ none → PutAsk s w0 vt vh t h := by
  induction ht with
  | atom a hne hm => intro _; exact putT_atom s a hv hne hm
  | node ps b cap A hp hl hc hS hA hB hps ih =>
    intro hwf
    obtain ⟨q, qs, rfl⟩ : ∃ q qs, ps = q :: qs := by cases ps with | nil => simp at hp | cons q qs => exact ⟨q, qs, rfl⟩
    simp only [List.length_cons] at hl hA hB
    exact putT_go (S := S) s hv (n := qs.length) rfl rfl hA hB hps hwf (fun i p hp hw => ih i p hp hw)
end Go.Proofs.YtjennpiogdcngabGreatDoor

namespace Go.Proofs.YtjennpiogdcngabGreatDoor
open Go.RowKit

mutual
theorem wt_write : ∀ t : Tree, t.wk → t.wt ≤ t.write.length
  | .atom s, h => by
    rw [Tree.wk] at h
    rw [Tree.wt, Tree.write]
    have : s.data.toList.length ≠ 0 := by simpa using h.1
    omega
  | .node [], h => by rw [Tree.wk] at h; exact absurd rfl h.1
  | .node (p :: ps), h => by
    rw [Tree.wk, Tree.wks] at h
    have h1 := wt_write p h.2.1
    have h2 := wts_write ps h.2.2
    rw [Tree.wt, Tree.wts, Tree.write]
    simp only [List.length_cons, List.length_append, List.length_nil]
    omega
theorem wts_write : ∀ ps : List Tree, Tree.wks ps → Tree.wts ps ≤ (Tree.writes ps).length
  | [], _ => by simp [Tree.wts]
  | p :: ps, h => by
    rw [Tree.wks] at h
    have h1 := wt_write p h.1
    have h2 := wts_write ps h.2
    rw [Tree.wts, Tree.writes]
    simp only [List.length_cons, List.length_append]
    omega
end
theorem put_frame2 {w w1 w2 : World} {o1 o2 : Obj} (h1 : Below w.heap.size w w1) (h2 : Below (w1.alloc o1).heap.size (w1.alloc o1) w2) : Below w.heap.size w (w2.alloc o2) := by
  have z1 := h1.size
  have z2 := h2.size
  simp at z2
  exact ((h1.alloc z1 _).trans (h2.mono (by simp; omega))).alloc (by omega) _
theorem put_frame3 {w w1 w2 w5 w6 w7 w8 : World} {o1 : Obj} (h1 : Below w.heap.size w w1) (h2 : Below (w1.alloc o1).heap.size (w1.alloc o1) w2) (h5 : Below w2.heap.size w2 w5) (h6 : Below w5.heap.size w5 w6) (h7 : Below w6.heap.size w6 w7) (h8 : Below w7.heap.size w7 w8) : Below w.heap.size w w8 := by
  have z1 := h1.size
  have z2 := h2.size
  have z5 := h5.size
  have z6 := h6.size
  have z7 := h7.size
  simp at z2
  exact ((h1.alloc z1 _).trans (h2.mono (by simp; omega))).trans ((h5.mono (by omega)).trans ((h6.mono (by omega)).trans ((h7.mono (by omega)).trans (h8.mono (by omega)))))
/-- What the model finds of the tree that put makes. -/
theorem put_tree {s x y : ByteArray} {t vt : Tree} {m v : Tm} (h1 : readTm s = some m) (h2 : readTm y = some v) (hp : parse s = some t) (hvp : parse y = some vt) (ht : t.tm [] = some m) (hvt : vt.tm [] = some v) (h : nameB x.toList = true ∧ v.isVal = true ∧ v.free.length = 0) :
    (Tree.put x.toList vt t).write.length ≤ 400000000 ∧ (Tree.put x.toList vt t).wt ≤ 400000000 ∧ (Tree.put x.toList vt t).txt = mkT (Tm.put x.toList v m) ∧
    sortOf (Tree.put x.toList vt t).txt = (if (limOf (Tm.put x.toList v m)).isSome = true then vS (Tm.put x.toList v m).isVal else ByteArray.empty) := by
  obtain ⟨_, _, _, _, hms⟩ := readTm_inv h1
  obtain ⟨_, _, _, _, hvs⟩ := readTm_inv h2
  have hf : vt.free [] = [] := by rw [← tm_free vt [] v hvt]; exact List.length_eq_zero_iff.1 h.2.2
  have hT := (put_tm h.1 h.2.1 (closed_all hvt hf) t [] m ht).1 (by simp [hasB])
  have hwk := put_wk (s := x.toList) (parse_wk hvp).1 t (parse_wk hp).1
  have hz := tm_size _ _ _ hT
  have hl := tm_wlen _ _ _ hT
  have hw := tm_write _ _ _ hT
  have h3 := tmput_size x.toList v m
  have h4 := Nat.mul_le_mul hms hvs
  have h5 := wt_write _ hwk
  have h6 : (Tree.put x.toList vt t).txt = mkT (Tm.put x.toList v m) := by rw [Tree.txt, mkT, hw]
  refine ⟨by omega, by omega, h6, ?_⟩
  rw [sortOf, readTm_txt hwk hT, h6]
  unfold limOf
  by_cases e1 : (Tm.put x.toList v m).size ≤ 1500
  · cases e2 : parse (mkT (Tm.put x.toList v m)) with
    | none => rw [if_neg (by simp), if_pos e1]; rfl
    | some u => rw [if_pos ⟨by simp, e1⟩, if_pos e1]; simp only [Option.isSome_some, if_true]; show srtS (some (Tm.put x.toList v m).isVal) = vS (Tm.put x.toList v m).isVal; cases (Tm.put x.toList v m).isVal <;> rfl
  · rw [if_neg (fun e => e1 e.2), if_neg e1]; rfl

theorem limOf_eq {m : Tm} {u : ByteArray} (h : limOf m = some u) : u = mkT m := by
  unfold limOf at h
  split at h
  · split at h
    · exact (Option.some.inj h).symm
    · simp at h
  · simp at h
theorem vS_some (b : Bool) : (vS b).toList.isEmpty = false := by cases b <;> (apply isEmpty_not; decide)
set_option maxRecDepth 100000 in
set_option maxHeartbeats 2000000 in
theorem specTermPut_any (s x y : ByteArray) (hs : s.size ≤ 400000000) (hx : x.size ≤ 400000000) (hy : y.size ≤ 400000000) (w : World) : Calls Tryz.prog 22 #[.string s, .string x, .string y] w (OptPost (putOf s x y) w) := by
  have HC1 := hid (fun W => l2Term_any s hs W)
  have HC2 := hid (fun W => l2Term_any y hy W)
  have HNM := hid (fun W => l2Name_any x hx W)
  have hsv : (strV.toList == [118, 97, 108, 117, 101]) = true := by rw [strV_toList]; rfl
  have hsc : (strC.toList == [118, 97, 108, 117, 101]) = false := by rw [strC_toList]; rfl
  cases ht1 : termTree s with
  | none =>
    have HT1 := hid ht1
    rw [putOf_none1 (termTree_none ht1)]
    cases ht2 : termTree y with
    | none =>
      have HT2 := hid ht2
      clear ht1 ht2
      go_enter Tryz.func22, Tryz.ntmps22
      go_wp2_with (first
        | (go_at_call 24; first | (have _ := hb1; refine (HC2.out _).mono ?_; rintro e w2 hp2; rw [HT2.out] at hp2; obtain ⟨qa, qp, ql, qc, rfl, hql, hb2⟩ := hp2.none; clear hp2) | (refine (HC1.out _).mono ?_; rintro e w1 hp1; rw [HT1.out] at hp1; obtain ⟨pa, pp, pl, pc, rfl, hpl, hb1⟩ := hp1.none; clear hp1)))
      go_ret2
      exact ⟨rfl, put_frame2 hb1 hb2⟩
    | some vt =>
      have HT2 := hid ht2
      clear ht1 ht2
      go_enter Tryz.func22, Tryz.ntmps22
      go_wp2_with (first
        | (go_at_call 24; first | (have _ := hb1; refine (HC2.out _).mono ?_; rintro e w2 hp2; rw [HT2.out] at hp2; obtain ⟨qa, qp, ql, qc, rfl, hb2, htr2⟩ := hp2.some; have HTR2 := hid htr2; clear hp2 htr2) | (refine (HC1.out _).mono ?_; rintro e w1 hp1; rw [HT1.out] at hp1; obtain ⟨pa, pp, pl, pc, rfl, hpl, hb1⟩ := hp1.none; clear hp1)))
      go_ret2
      exact ⟨rfl, put_frame2 hb1 hb2⟩
  | some t =>
    have HT1 := hid ht1
    cases ht2 : termTree y with
    | none =>
      have HT2 := hid ht2
      rw [putOf_none2 (termTree_none ht2)]
      clear ht1 ht2
      cases hn : nameB x.toList with
      | false =>
        rw [hn] at HNM
        go_enter Tryz.func22, Tryz.ntmps22
        go_wp2_with (first
          | (go_at_call 51; have _ := hb2; refine (HNM.out _).mono ?_; rintro e w3 ⟨rfl, rfl⟩)
          | (go_at_call 24; first | (have _ := hb1; refine (HC2.out _).mono ?_; rintro e w2 hp2; rw [HT2.out] at hp2; obtain ⟨qa, qp, ql, qc, rfl, hql, hb2⟩ := hp2.none; clear hp2) | (refine (HC1.out _).mono ?_; rintro e w1 hp1; rw [HT1.out] at hp1; obtain ⟨pa, pp, pl, pc, rfl, hb1, htr1⟩ := hp1.some; have HTR1 := hid htr1; clear hp1 htr1)))
        go_ret2
        exact ⟨rfl, put_frame2 hb1 hb2⟩
      | true =>
        rw [hn] at HNM
        go_enter Tryz.func22, Tryz.ntmps22
        go_wp2_with (first
          | (go_at_call 51; have _ := hb2; refine (HNM.out _).mono ?_; rintro e w3 ⟨rfl, rfl⟩)
          | (go_at_call 24; first | (have _ := hb1; refine (HC2.out _).mono ?_; rintro e w2 hp2; rw [HT2.out] at hp2; obtain ⟨qa, qp, ql, qc, rfl, hql, hb2⟩ := hp2.none; clear hp2) | (refine (HC1.out _).mono ?_; rintro e w1 hp1; rw [HT1.out] at hp1; obtain ⟨pa, pp, pl, pc, rfl, hb1, htr1⟩ := hp1.some; have HTR1 := hid htr1; clear hp1 htr1)))
        go_ret2
        exact ⟨rfl, put_frame2 hb1 hb2⟩
    | some vt =>
      have HT2 := hid ht2
      obtain ⟨hpt, hso, _, m, hm, htm⟩ := termTree_some ht1
      obtain ⟨hpv, hsov, _, v, hmv, hvtm⟩ := termTree_some ht2
      have hwtv := parse_wt hpv
      have hokv := hid (parse_ok hpv)
      have hvv : vt.srt = some v.isVal := by rw [← tm_isVal vt [], hvtm]; rfl
      have hfr := tm_free vt [] v hvtm
      cases hn : nameB x.toList with
      | false =>
        rw [hn] at HNM
        rw [putOf_no hm hmv (fun e => by rw [hn] at e; cases e.1)]
        clear ht1 ht2 hm hmv
        go_enter Tryz.func22, Tryz.ntmps22
        go_wp2_with (first
          | (go_at_call 51; have _ := hb2; refine (HNM.out _).mono ?_; rintro e w3 ⟨rfl, rfl⟩)
          | (go_at_call 24; first | (have _ := hb1; refine (HC2.out _).mono ?_; rintro e w2 hp2; rw [HT2.out] at hp2; obtain ⟨qa, qp, ql, qc, rfl, hb2, htr2⟩ := hp2.some; have HTR2 := hid htr2; clear hp2 htr2) | (refine (HC1.out _).mono ?_; rintro e w1 hp1; rw [HT1.out] at hp1; obtain ⟨pa, pp, pl, pc, rfl, hb1, htr1⟩ := hp1.some; have HTR1 := hid htr1; clear hp1 htr1)))
        go_ret2
        exact ⟨rfl, put_frame2 hb1 hb2⟩
      | true =>
        rw [hn] at HNM
        cases hv : v.isVal with
        | false =>
          rw [putOf_no hm hmv (fun e => by rw [hv] at e; cases e.2.1)]
          have HSO := hid (fun (w0 : World) (S : Nat → Prop) (h : Hd) (ht : TIn w0 S vt h) (W : World) (hk : Kept w0 W) (hs : w0.heap.size ≤ W.heap.size) => (show Calls Tryz.prog 52 #[.agg #[.string h.a, .slice h.p h.l h.c]] W fun e w' => e = .returned (.string strC) ∧ Below W.heap.size W w' from by have := l2Sort_any ht hwtv hokv.out W hk hs; rw [hvv, hv] at this; exact this))
          clear ht1 ht2 hm hmv
          go_enter Tryz.func22, Tryz.ntmps22
          go_wp2_with (first
            | (go_at_call 52; have _ := hb2; refine (HSO.out _ _ _ HTR2.out _ ((Kept.refl _).alloc (Nat.le_refl _) _) (by simp)).mono ?_; rintro e w4 ⟨rfl, hb4⟩; have HB4 := hid (show Below w2.heap.size w2 w4 from ((Below.refl w2.heap.size w2).alloc (Nat.le_refl _) _).trans (hb4.mono (by simp))); have zz2 := hb2.size; have zz4 := hb4.size; simp at zz2 zz4; have HV4 := hid ((hb4.block w2.heap.size (by simp)).trans (heap_new w2 (.cells #[.string qa, .slice qp ql qc] 40) w2.heap.size rfl)); have HT4 := hid ((hb4.block w1.heap.size (by simp; omega)).trans ((heap_alloc_old w2 _ (by omega)).trans ((hb2.block w1.heap.size (by simp)).trans (heap_new w1 (.cells #[.string pa, .slice pp pl pc] 40) w1.heap.size rfl)))); have kv4 := cells_of_pair HV4.out)
            | (go_at_call 51; have _ := hb2; refine (HNM.out _).mono ?_; rintro e w3 ⟨rfl, rfl⟩)
            | (go_at_call 24; first | (have _ := hb1; refine (HC2.out _).mono ?_; rintro e w2 hp2; rw [HT2.out] at hp2; obtain ⟨qa, qp, ql, qc, rfl, hb2, htr2⟩ := hp2.some; have HTR2 := hid htr2; clear hp2 htr2) | (refine (HC1.out _).mono ?_; rintro e w1 hp1; rw [HT1.out] at hp1; obtain ⟨pa, pp, pl, pc, rfl, hb1, htr1⟩ := hp1.some; have HTR1 := hid htr1; clear hp1 htr1)))
          go_ret2
          exact ⟨rfl, (put_frame2 (o2 := .cells #[.string qa, .slice qp ql qc] 40) hb1 hb2).trans (hb4.mono (put_frame2 (o2 := .cells #[.string qa, .slice qp ql qc] 40) hb1 hb2).size)⟩
        | true =>
          have HSO := hid (fun (w0 : World) (S : Nat → Prop) (h : Hd) (ht : TIn w0 S vt h) (W : World) (hk : Kept w0 W) (hs : w0.heap.size ≤ W.heap.size) => (show Calls Tryz.prog 52 #[.agg #[.string h.a, .slice h.p h.l h.c]] W fun e w' => e = .returned (.string strV) ∧ Below W.heap.size W w' from by have := l2Sort_any ht hwtv hokv.out W hk hs; rw [hvv, hv] at this; exact this))
          by_cases hf : v.free.length = 0
          · have HCL := hid (fun (w0 : World) (S : Nat → Prop) (h : Hd) (ht : TIn w0 S vt h) (W : World) (hk : Kept w0 W) (hs : w0.heap.size ≤ W.heap.size) => (show Calls Tryz.prog 25 #[.agg #[.string h.a, .slice h.p h.l h.c]] W fun e w' => e = .returned (.bool true) ∧ Below W.heap.size W w' from by have := l2Closed_any ht hwtv hokv.out hsov W hk hs; rw [← hfr, decide_eq_true hf] at this; exact this))
            obtain ⟨hT1, hT2, hT3, hT4⟩ := put_tree hm hmv hpt hpv htm hvtm ⟨hn, hv, hf⟩
            rw [putOf_some hm hmv ⟨hn, hv, hf⟩]
            have HPU := hid (fun (w0 : World) (S S2 : Nat → Prop) (h vh : Hd) (ht : TIn w0 S t h) (hv : TIn w0 S2 vt vh) => l2Put_any x ht hv hso)
            unfold PutAsk PutTPost at HPU
            obtain ⟨T, hTT⟩ : ∃ T, Tree.put x.toList vt t = T := ⟨_, rfl⟩
            rw [hTT] at HPU hT1 hT2 hT3 hT4
            have HTX := hid (fun (w0 : World) (S : Nat → Prop) (h : Hd) (ht : TIn w0 S T h) (W : World) (hk : Kept w0 W) (hs : w0.heap.size ≤ W.heap.size) => l1Text_big ht hT1 hT2 W hk hs)
            have hT5 := txt_size T
            have HTS := hid (fun W => specTermSort_any T.txt (by omega) W)
            rw [hT4] at HTS
            rw [hT3] at HTX HTS hT5
            have hea : ByteArray.empty.toList.isEmpty = true := isEmpty_of _ rfl
            have heb := vS_some (Tm.put x.toList v m).isVal
            obtain ⟨vb, hvb⟩ : ∃ vb, vS (Tm.put x.toList v m).isVal = vb := ⟨_, rfl⟩
            rw [hvb] at HTS heb
            obtain ⟨M, hM⟩ : ∃ M, mkT (Tm.put x.toList v m) = M := ⟨_, rfl⟩
            cases hl : limOf (Tm.put x.toList v m) with
            | none =>
              rw [hl] at HTS
              simp only [Option.isSome_none, Bool.false_eq_true, if_false] at HTS
              rw [hM] at HTX HTS
              clear ht1 ht2 hm hmv hfr hvb hT3 hT4 hTT hl hM
              go_enter Tryz.func22, Tryz.ntmps22
              go_wp2_with (first
                | (go_at_call 55; have _ := hb7; refine (HTS.out _).mono ?_; rintro e w8 ⟨rfl, hb8⟩)
                | (go_at_call 53; have _ := hb6; refine (HTX.out _ _ _ HTI6.out _ (Kept.refl _) (Nat.le_refl _)).mono ?_; rintro e w7 ⟨rfl, hb7⟩)
                | (go_at_call 54; have _ := hb5; refine (HPU.out _ _ _ _ _ (HTR1.out.keep (fun k _ hl => (hb2.block k (by simp; omega)).trans (heap_alloc_old w1 _ hl)) (fun _ hk _ => hk)) HTR2.out _ (Kept.of_below HB5.out (Nat.le_refl _)) HB5.out.size).mono ?_; rintro e w6 ⟨h6, rfl, hti6, hb6⟩; have HTI6 := hid hti6; clear hti6)
                | (go_at_call 25; have _ := hb4; refine (HCL.out _ _ _ HTR2.out _ (Kept.of_below HB4.out (Nat.le_refl _)) HB4.out.size).mono ?_; rintro e w5 ⟨rfl, hb5⟩; have HB5 := hid (HB4.out.trans (hb5.mono HB4.out.size)); have kv5 := cells_of_pair ((hb5.block w2.heap.size (by omega)).trans HV4.out); have kt5 := cells_of_pair ((hb5.block w1.heap.size (by omega)).trans HT4.out))
                | (go_at_call 52; have _ := hb2; refine (HSO.out _ _ _ HTR2.out _ ((Kept.refl _).alloc (Nat.le_refl _) _) (by simp)).mono ?_; rintro e w4 ⟨rfl, hb4⟩; have HB4 := hid (show Below w2.heap.size w2 w4 from ((Below.refl w2.heap.size w2).alloc (Nat.le_refl _) _).trans (hb4.mono (by simp))); have zz2 := hb2.size; have zz4 := hb4.size; simp at zz2 zz4; have HV4 := hid ((hb4.block w2.heap.size (by simp)).trans (heap_new w2 (.cells #[.string qa, .slice qp ql qc] 40) w2.heap.size rfl)); have HT4 := hid ((hb4.block w1.heap.size (by simp; omega)).trans ((heap_alloc_old w2 _ (by omega)).trans ((hb2.block w1.heap.size (by simp)).trans (heap_new w1 (.cells #[.string pa, .slice pp pl pc] 40) w1.heap.size rfl)))); have kv4 := cells_of_pair HV4.out)
                | (go_at_call 51; have _ := hb2; refine (HNM.out _).mono ?_; rintro e w3 ⟨rfl, rfl⟩)
                | (go_at_call 24; first | (have _ := hb1; refine (HC2.out _).mono ?_; rintro e w2 hp2; rw [HT2.out] at hp2; obtain ⟨qa, qp, ql, qc, rfl, hb2, htr2⟩ := hp2.some; have HTR2 := hid htr2; clear hp2 htr2) | (refine (HC1.out _).mono ?_; rintro e w1 hp1; rw [HT1.out] at hp1; obtain ⟨pa, pp, pl, pc, rfl, hb1, htr1⟩ := hp1.some; have HTR1 := hid htr1; clear hp1 htr1)))
              go_ret2
              have z2 := HB5.out.size; have z6 := hb6.size; have z7 := hb7.size
              exact ⟨rfl, put_frame3 hb1 hb2 HB5.out hb6 hb7 hb8⟩
            | some u =>
              obtain rfl := limOf_eq hl
              rw [hl] at HTS
              simp only [Option.isSome_some, if_true] at HTS
              rw [hM] at HTX HTS ⊢
              clear ht1 ht2 hm hmv hfr hvb hT3 hT4 hTT hl hM
              go_enter Tryz.func22, Tryz.ntmps22
              go_wp2_with (first
                | (go_at_call 55; have _ := hb7; refine (HTS.out _).mono ?_; rintro e w8 ⟨rfl, hb8⟩)
                | (go_at_call 53; have _ := hb6; refine (HTX.out _ _ _ HTI6.out _ (Kept.refl _) (Nat.le_refl _)).mono ?_; rintro e w7 ⟨rfl, hb7⟩)
                | (go_at_call 54; have _ := hb5; refine (HPU.out _ _ _ _ _ (HTR1.out.keep (fun k _ hl => (hb2.block k (by simp; omega)).trans (heap_alloc_old w1 _ hl)) (fun _ hk _ => hk)) HTR2.out _ (Kept.of_below HB5.out (Nat.le_refl _)) HB5.out.size).mono ?_; rintro e w6 ⟨h6, rfl, hti6, hb6⟩; have HTI6 := hid hti6; clear hti6)
                | (go_at_call 25; have _ := hb4; refine (HCL.out _ _ _ HTR2.out _ (Kept.of_below HB4.out (Nat.le_refl _)) HB4.out.size).mono ?_; rintro e w5 ⟨rfl, hb5⟩; have HB5 := hid (HB4.out.trans (hb5.mono HB4.out.size)); have kv5 := cells_of_pair ((hb5.block w2.heap.size (by omega)).trans HV4.out); have kt5 := cells_of_pair ((hb5.block w1.heap.size (by omega)).trans HT4.out))
                | (go_at_call 52; have _ := hb2; refine (HSO.out _ _ _ HTR2.out _ ((Kept.refl _).alloc (Nat.le_refl _) _) (by simp)).mono ?_; rintro e w4 ⟨rfl, hb4⟩; have HB4 := hid (show Below w2.heap.size w2 w4 from ((Below.refl w2.heap.size w2).alloc (Nat.le_refl _) _).trans (hb4.mono (by simp))); have zz2 := hb2.size; have zz4 := hb4.size; simp at zz2 zz4; have HV4 := hid ((hb4.block w2.heap.size (by simp)).trans (heap_new w2 (.cells #[.string qa, .slice qp ql qc] 40) w2.heap.size rfl)); have HT4 := hid ((hb4.block w1.heap.size (by simp; omega)).trans ((heap_alloc_old w2 _ (by omega)).trans ((hb2.block w1.heap.size (by simp)).trans (heap_new w1 (.cells #[.string pa, .slice pp pl pc] 40) w1.heap.size rfl)))); have kv4 := cells_of_pair HV4.out)
                | (go_at_call 51; have _ := hb2; refine (HNM.out _).mono ?_; rintro e w3 ⟨rfl, rfl⟩)
                | (go_at_call 24; first | (have _ := hb1; refine (HC2.out _).mono ?_; rintro e w2 hp2; rw [HT2.out] at hp2; obtain ⟨qa, qp, ql, qc, rfl, hb2, htr2⟩ := hp2.some; have HTR2 := hid htr2; clear hp2 htr2) | (refine (HC1.out _).mono ?_; rintro e w1 hp1; rw [HT1.out] at hp1; obtain ⟨pa, pp, pl, pc, rfl, hb1, htr1⟩ := hp1.some; have HTR1 := hid htr1; clear hp1 htr1)))
              go_ret2
              exact ⟨rfl, put_frame3 hb1 hb2 HB5.out hb6 hb7 hb8⟩
          · rw [putOf_no hm hmv (fun e => hf e.2.2)]
            have HCL := hid (fun (w0 : World) (S : Nat → Prop) (h : Hd) (ht : TIn w0 S vt h) (W : World) (hk : Kept w0 W) (hs : w0.heap.size ≤ W.heap.size) => (show Calls Tryz.prog 25 #[.agg #[.string h.a, .slice h.p h.l h.c]] W fun e w' => e = .returned (.bool false) ∧ Below W.heap.size W w' from by have := l2Closed_any ht hwtv hokv.out hsov W hk hs; rw [← hfr, decide_eq_false hf] at this; exact this))
            clear ht1 ht2 hm hmv
            go_enter Tryz.func22, Tryz.ntmps22
            go_wp2_with (first
              | (go_at_call 25; have _ := hb4; refine (HCL.out _ _ _ HTR2.out _ (Kept.of_below HB4.out (Nat.le_refl _)) HB4.out.size).mono ?_; rintro e w5 ⟨rfl, hb5⟩; have HB5 := hid (HB4.out.trans (hb5.mono HB4.out.size)); have kv5 := cells_of_pair ((hb5.block w2.heap.size (by omega)).trans HV4.out); have kt5 := cells_of_pair ((hb5.block w1.heap.size (by omega)).trans HT4.out))
              | (go_at_call 52; have _ := hb2; refine (HSO.out _ _ _ HTR2.out _ ((Kept.refl _).alloc (Nat.le_refl _) _) (by simp)).mono ?_; rintro e w4 ⟨rfl, hb4⟩; have HB4 := hid (show Below w2.heap.size w2 w4 from ((Below.refl w2.heap.size w2).alloc (Nat.le_refl _) _).trans (hb4.mono (by simp))); have zz2 := hb2.size; have zz4 := hb4.size; simp at zz2 zz4; have HV4 := hid ((hb4.block w2.heap.size (by simp)).trans (heap_new w2 (.cells #[.string qa, .slice qp ql qc] 40) w2.heap.size rfl)); have HT4 := hid ((hb4.block w1.heap.size (by simp; omega)).trans ((heap_alloc_old w2 _ (by omega)).trans ((hb2.block w1.heap.size (by simp)).trans (heap_new w1 (.cells #[.string pa, .slice pp pl pc] 40) w1.heap.size rfl)))); have kv4 := cells_of_pair HV4.out)
              | (go_at_call 51; have _ := hb2; refine (HNM.out _).mono ?_; rintro e w3 ⟨rfl, rfl⟩)
              | (go_at_call 24; first | (have _ := hb1; refine (HC2.out _).mono ?_; rintro e w2 hp2; rw [HT2.out] at hp2; obtain ⟨qa, qp, ql, qc, rfl, hb2, htr2⟩ := hp2.some; have HTR2 := hid htr2; clear hp2 htr2) | (refine (HC1.out _).mono ?_; rintro e w1 hp1; rw [HT1.out] at hp1; obtain ⟨pa, pp, pl, pc, rfl, hb1, htr1⟩ := hp1.some; have HTR1 := hid htr1; clear hp1 htr1)))
            go_ret2
            exact ⟨rfl, put_frame3 hb1 hb2 HB5.out (Below.refl _ _) (Below.refl _ _) (Below.refl _ _)⟩
end Go.Proofs.YtjennpiogdcngabGreatDoor

namespace Go.Proofs.YtjennpiogdcngabGreatDoor
open Go.RowKit

set_option maxRecDepth 100000 in
set_option maxHeartbeats 1000000 in
theorem lawTermPut (s : ByteArray) (hs : s.size ≤ 9223372036854775807) (x : ByteArray) (hx : x.size ≤ 9223372036854775807) (y : ByteArray) (hy : y.size ≤ 9223372036854775807) (w : World) : Calls Tryz.prog 6 #[.string s, .string x, .string y] w fun e w' => e = .returned (.bool true) ∧ Below w.heap.size w w' := by
  by_cases h : s.size ≤ 1048576
  · by_cases h1 : x.size ≤ 1048576
    · by_cases h2 : y.size ≤ 1048576
      · have HA := hid (fun W => specTermPut_any s x y (by omega) (by omega) (by omega) W)
        have HB := hid (fun W => implTermPut_any s x y (by omega) (by omega) (by omega) W)
        unfold OptPost at HA HB
        generalize (putOf s x y).getD ByteArray.empty = r0 at HA HB
        generalize (putOf s x y).isSome = r1 at HA HB
        have q0 : (r0.toList == r0.toList) = true := by simp
        have q0b : (!r0.toList == r0.toList) = false := by simp
        have q1 : (r1 != r1) = false := by simp
        go_enter Tryz.func6, Tryz.ntmps6
        go_wp2_with (first | (go_at_call 22; refine (HA.out _).mono ?_; rintro e w1 ⟨rfl, hb1⟩) | (go_at_call 23; refine (HB.out _).mono ?_; rintro e w2 ⟨rfl, hb2⟩))
        go_ret
        exact ⟨rfl, hb1.trans (hb2.mono hb1.size)⟩
      · have h3 : 1048576 < y.size := by omega
        clear h2
        go_enter Tryz.func6, Tryz.ntmps6
        go_wp2
        go_ret
        exact ⟨rfl, Below.refl _ _⟩
    · have h3 : 1048576 < x.size := by omega
      clear h1
      go_enter Tryz.func6, Tryz.ntmps6
      go_wp2
      go_ret
      exact ⟨rfl, Below.refl _ _⟩
  · have h3 : 1048576 < s.size := by omega
    clear h
    go_enter Tryz.func6, Tryz.ntmps6
    go_wp2
    go_ret
    exact ⟨rfl, Below.refl _ _⟩
end Go.Proofs.YtjennpiogdcngabGreatDoor

namespace Go.Proofs.YtjennpiogdcngabGreatDoor.fnExactTermPut
open Go.ChangeShapes Go.WideShapes Go.ChangeAt Go.RowKit
open Go.ChangeMaps (open_string shut_string)

theorem own : ownKnob Tryz.prog.godebug = none := by kernel_rfl

set_option maxRecDepth 100000 in
theorem lifted (os : Os) (started : os.Started) (H : Type) (enc : TypeId × Value → H) :
    ReturnsInHanded {} Tryz.checked os 6 .any (fun w args => (Rows.fnExactTermPutSpec.pre enc Tryz.prog Tryz.f6 [] false w args ∧ laidMetH Tryz.prog Rows.fnExactTermPutRow.laid w) ∧ sizedMet enc Tryz.prog Tryz.f6 (OpenSpec.ofChange Rows.fnExactTermPutSpec) false w args) (Rows.fnExactTermPutSpec.post enc Tryz.prog Tryz.f6 false true false false) := by
  refine returnsInHanded_of_change_and (C := Tryz.checked) (X := fun w _ => laidMetH Tryz.prog Rows.fnExactTermPutRow.laid w) (fun _ _ _ hh h => h.of_heap hh) own started (by kernel_rfl) Tryz.func6
    (ChangeSpec.witness_shaped (enc := enc) (C := Tryz.checked) (os := os) (X := fun w _ => laidMetH Tryz.prog Rows.fnExactTermPutRow.laid w) false (World.laidAll Tryz.prog os Rows.fnExactTermPutRow.laid) #[.string ByteArray.empty, .string ByteArray.empty, .string ByteArray.empty] 8 (World.laidAll_os _ _ _)
      (World.shaped_of_ZipB (by kernel_rfl) (by kernel_rfl)) (by kernel_rfl) (by kernel_rfl) (by kernel_rfl)
      (by rw [MakeChecks.laidMetH_plain _ _ _ (by kernel_rfl)]; exact laidMet_laidAll _ (by kernel_rfl) (by kernel_rfl))) ?_
  intro W base args ds gs before hval0 hW _ _ _ _
  have hval : ∀ (j : Nat) t v, Tryz.f6.params[j]? = some t → args[j]? = some v → Value.okWide Tryz.prog W .any base t v := hval0
  have hW' := hW
  obtain ⟨p, q, hA0, hV, rfl, _, _⟩ := hW
  have hA : DataW.TrodAll enc Tryz.prog W 0 (fun _ => true) true Tryz.f6.params.toList args.toList ds p := hA0
  rw [Tryz.params6] at hA hval
  obtain ⟨v0, vs0, d0, ds0, p0, q0, hargs, rfl, rfl, h0, r0⟩ := trodAll_cons hA
  obtain ⟨v1, vs1, d1, ds1, p1, q1, rfl, rfl, rfl, h1, r1⟩ := trodAll_cons r0
  obtain ⟨v2, vs2, d2, ds2, p2, q2, rfl, rfl, rfl, h2, r2⟩ := trodAll_cons r1
  obtain ⟨rfl, rfl, rfl⟩ := trodAll_nil r2
  obtain rfl : args = #[v0, v1, v2] := by cases args; simp_all
  obtain ⟨rfl, rfl⟩ := trodVars_none hV
  obtain ⟨a0, rfl, rfl, rfl, w0⟩ := open_string Tryz.underlying9 (hval 0 9 v0 rfl rfl) h0
  obtain ⟨a1, rfl, rfl, rfl, w1⟩ := open_string Tryz.underlying9 (hval 1 9 v1 rfl rfl) h1
  obtain ⟨a2, rfl, rfl, rfl, w2⟩ := open_string Tryz.underlying9 (hval 2 9 v2 rfl rfl) h2
  clear hA0 hval0
  simp only [List.append_nil] at hW'
  refine (lawTermPut a0 w0 a1 w1 a2 w2 W).mono fun e W' ⟨he, hb⟩ => ?_
  subst he
  exact ⟨_, rfl, _, _, _, [], [], [], hW', (trodAll_cons_mk (shut_bool Tryz.underlying4 _) trodAll_mk0), (trodAll_cons_mk (shut_string Tryz.underlying9 w0) (trodAll_cons_mk (shut_string Tryz.underlying9 w1) (trodAll_cons_mk (shut_string Tryz.underlying9 w2) trodAll_mk0))), rfl, hb.frame _, fun h => by cases h⟩

theorem proved : Rows.FnExactTermPutSaid :=
  OpenClaim.holds_of_wide 6 Tryz.f6 rfl rfl rfl rfl rfl rfl rfl ⟨rfl, rfl, rfl, rfl, rfl⟩ rfl rfl rfl rfl rfl (by kernel_rfl) Tryz.func6 (by kernel_rfl)
    (of_decide_eq_true (by kernel_rfl)) (by unfold Func.isWrapper; rw [if_neg (of_decide_eq_false (by kernel_rfl))]; exact ⟨rfl, rfl⟩)
    (fun os started H enc _ => lifted os started H enc)
/-- THE TIED CARD. -/
theorem card : Rows.FnExactTermPutCardSaid :=
  Claim7.holds_tied_plain_at .later [] [.data, .pinned] true (true, "b739579235cd36fb6c9e653d7b41f444f4963365d4bf1b122759923a8b71867c") true
    proved (fun _ h => by cases h) (by kernel_rfl) (fun _ h => by cases h) fnExactTermPut_row_tie rfl ⟨rfl, rfl⟩ (by kernel_rfl) rfl
    (fun f fn hf hfn => by
      obtain rfl : f = 6 := Option.some.inj ((show Tryz.prog.funcNamed "loop.example/pushvalue/laws.FnExactTermPut" = some 6 by kernel_rfl).symm.trans hf) |>.symm
      obtain rfl : fn = Tryz.f6 := (Option.some.inj (Tryz.func6.symm.trans hfn)).symm
      exact ⟨by kernel_rfl, fun j t ht => by
        rw [Tryz.params6] at ht
        have hm : t ∈ [9] := by simpa using Array.mem_of_getElem? ht
        have hall : ([9].all fun u => !Tryz.prog.wantsStandIn u) = true := by kernel_rfl
        exact (show Tryz.prog.wantsStandIn t = false by simpa using List.all_eq_true.1 hall t hm)⟩)
    (by kernel_rfl)
#print axioms card
end Go.Proofs.YtjennpiogdcngabGreatDoor.fnExactTermPut
