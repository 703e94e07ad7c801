/- Merged: FaultP. -/
import Derived.Test.YtfogjomebcponaaGreatDoorTT41
import Derived.Test.YtfogjomebcponaaGreatDoorTTSFltW
import Derived.Test.YtfogjomebcponaaGreatDoorTT42
import Derived.Test.YtfogjomebcponaaGreatDoorTT26
import Derived.Test.YtfogjomebcponaaGreatDoorTT35
namespace Go.Proofs.YtfogjomebcponaaGreatDoor
open Go.RowKit

/-- The fault of a text that is a closed term. -/
def faultOf (s : ByteArray) : Option Tm := match readTm s with
  | some m => if m.free.length = 0 then m.flt [] else none
  | none => none
def fauTxt : Option Tm → ByteArray
  | some f => ⟨f.write.toArray⟩
  | none => ByteArray.empty
def FauPost (o : Option Tm) (w : World) (e : Ending) (w' : World) : Prop := e = .returned (.tuple #[.string (fauTxt o), .bool o.isSome]) ∧ Below w.heap.size w w'
theorem readTm_bytes8 {s : ByteArray} {m : Tm} (h : readTm s = some m) : ∃ t, parse s = some t ∧ t.tm [] = some m ∧ m.write = t.write ∧ m.write.length ≤ 12000 ∧ m.fit ∧ t.wk := by
  obtain ⟨t, hp, ht, _, _⟩ := readTm_inv h
  have hw := tm_write t [] m ht
  exact ⟨t, hp, ht, hw, by rw [hw]; exact (parse_wk hp).2.2, tm_fit t [] m ht, (parse_wk hp).1⟩
theorem fault_small {s : ByteArray} {m f : Tm} (h : readTm s = some m) (hf : m.flt [] = some f) : f.fit ∧ f.write.length ≤ 12000 := by
  obtain ⟨t, hp, ht, hw, hl, hfit, hwk⟩ := readTm_bytes8 h
  obtain ⟨tr, ar, h1, h2⟩ := (tm_flt t [] m [] ht).fault hf
  have h3 := flt_wk t [] tr h1 hwk
  exact ⟨flt_fit m [] f hf hfit, by rw [tm_write tr ar f h2]; rw [hw] at hl; omega⟩
theorem readTm_size8 {s : ByteArray} {m : Tm} (h : readTm s = some m) : m.size ≤ 100000 := by
  obtain ⟨t, _, _, _, h5⟩ := readTm_inv h
  omega

set_option maxRecDepth 100000 in
set_option maxHeartbeats 2000000 in
theorem implTermFault_any (s : ByteArray) (hs : s.size ≤ 400000000) (w : World) : Calls Tryz.prog 16 #[.string s] w (FauPost (faultOf s) w) := by
  have HR := hid (fun W => readTerm_any s hs W)
  unfold faultOf
  cases hr : readTm s with
  | none =>
    rw [hr] at HR
    clear hr
    go_enter Tryz.func16, Tryz.ntmps16
    go_wp2_with (go_at_call 29; refine (HR.out _).mono ?_; rintro e w1 hp; obtain ⟨rfl, hb1⟩ := hp.none; clear hp)
    go_ret2
    exact ⟨rfl, hb1⟩
  | some m =>
    rw [hr] at HR
    have HTOK := hid (readTm_tok hr)
    have HSM := hid (fun f hf => fault_small (f := f) hr hf)
    have HFR := hid (fun (w1 : World) (a : Nat) (hn : NIn w1 (fun _ => True) m a) => freeNames_any hn (readTm_size8 hr) w1 (Kept.refl _) (Nat.le_refl _))
    have hfl := free_length m
    have hsz := readTm_size8 hr
    obtain ⟨k, hk⟩ : ∃ k, m.free.length = k := ⟨_, rfl⟩
    show Calls _ _ _ w (FauPost (if m.free.length = 0 then m.flt [] else none) w)
    have HFR2 := hid (fun w1 a hn => (HFR.out w1 a hn).mono fun e w' (h : OwnS m.free w1 e w') => (show ∃ q c, e = .returned (.slice q k c) ∧ Below w1.heap.size w1 w' from by
      obtain ⟨q, c, he, hv, _, hb⟩ := h.full; rw [hk] at he; exact ⟨q, c, he, hb⟩))
    rw [hk]
    have hk2 : k ≤ 100000 := by omega
    clear hr HFR hfl hsz
    by_cases h0 : k = 0
    · subst h0
      rw [if_pos rfl]
      have HFA := hid (fun (w1 w2 : World) (a : Nat) (hn : NIn w1 (fun _ => True) m a) (hb : Below w1.heap.size w1 w2) => faultIn_any (env := []) (pe := none) hn HTOK.out EIn.nil (fun x hx => by cases hx) hb)
      cases hty : m.typ [] with
      | some ty =>
        have hff : m.flt [] = none := by
          cases hf : m.flt [] with
          | none => rfl
          | some f => have := flt_some m [] f hf; rw [hty] at this; cases this
        rw [hff]
        have HFB := hid (fun w1 w2 a hn hb => (HFA.out w1 w2 a hn hb).mono fun e w' (h : FltPost w1 (fun _ => True) m [] w2 e w') => (show e = .returned (.tuple #[.pointer none, .bool false]) ∧ Below w2.heap.size w2 w' from by
          unfold FltPost at h; rw [hty] at h; exact ⟨h.2, h.1⟩))
        clear HFA hty hff
        go_enter Tryz.func16, Tryz.ntmps16
        go_wp2_with (first
          | (go_at_call 36; have _ := hb2; refine (HFB.out _ _ _ HN.out hb2).mono ?_; rintro e w3 ⟨rfl, hb3⟩)
          | (go_at_call 35; refine (HFR2.out _ _ HN.out).mono ?_; rintro e w2 ⟨q2, c2, rfl, hb2⟩)
          | (go_at_call 29; refine (HR.out _).mono ?_; rintro e w1 hp; obtain ⟨a, rfl, hb1, hn1⟩ := hp.some; have HN := hid (hn1.keep (fun _ _ _ => rfl) (fun _ _ _ => trivial)); clear hp hn1))
        go_ret2
        exact ⟨rfl, hb1.trans ((hb2.trans (hb3.mono hb2.size)).mono hb1.size)⟩
      | none =>
        cases hf : m.flt [] with
        | none => have := flt_none m [] hf; rw [hty] at this; cases this
        | some f =>
          obtain ⟨hfit, hlen⟩ := HSM.out f hf
          have HFB := hid (fun w1 w2 a hn hb => (HFA.out w1 w2 a hn hb).mono fun e w' (h : FltPost w1 (fun _ => True) m [] w2 e w') => (show ∃ b, e = .returned (.tuple #[.pointer (some ⟨b, 0, none⟩), .bool true]) ∧ NIn w1 (fun _ => True) f b ∧ Below w2.heap.size w2 w' from by
            unfold FltPost at h; rw [hty] at h
            obtain ⟨h1, f', b, h2, h3, h4⟩ := h
            rw [hf] at h2; obtain rfl := Option.some.inj h2
            exact ⟨b, h4, h3, h1⟩))
          have HTX := hid (fun (w1 w3 : World) (b : Nat) (hn : NIn w1 (fun _ => True) f b) (hb : Below w1.heap.size w1 w3) => text_any hn hfit hlen w3 (Kept.of_below hb (Nat.le_refl _)) hb.size)
          show Calls _ _ _ w (FauPost (some f) w)
          unfold FauPost
          rw [show fauTxt (some f) = ⟨f.write.toArray⟩ from rfl]
          obtain ⟨r, hrr⟩ : ∃ r : ByteArray, (⟨f.write.toArray⟩ : ByteArray) = r := ⟨_, rfl⟩
          rw [hrr] at HTX ⊢
          clear HFA hty hf hrr
          go_enter Tryz.func16, Tryz.ntmps16
          go_wp2_with (first
            | (go_at_call 37; have _ := hb3; refine (HTX.out _ _ _ HNF.out (hb2.trans (hb3.mono hb2.size))).mono ?_; rintro e w4 ⟨rfl, hb4⟩)
            | (go_at_call 36; have _ := hb2; refine (HFB.out _ _ _ HN.out hb2).mono ?_; rintro e w3 ⟨b3, rfl, hnf, hb3⟩; have HNF := hid hnf; clear hnf)
            | (go_at_call 35; refine (HFR2.out _ _ HN.out).mono ?_; rintro e w2 ⟨q2, c2, rfl, hb2⟩)
            | (go_at_call 29; refine (HR.out _).mono ?_; rintro e w1 hp; obtain ⟨a, rfl, hb1, hn1⟩ := hp.some; have HN := hid (hn1.keep (fun _ _ _ => rfl) (fun _ _ _ => trivial)); clear hp hn1))
          go_ret2
          exact ⟨rfl, hb1.trans ((hb2.trans ((hb3.trans (hb4.mono hb3.size)).mono hb2.size)).mono hb1.size)⟩
    · rw [if_neg h0]
      have hkb : ((k : Int) != 0) = true := bne_iff_ne.2 (by omega)
      clear h0
      go_enter Tryz.func16, Tryz.ntmps16
      go_wp2_with (first
        | (go_at_call 35; refine (HFR2.out _ _ HN.out).mono ?_; rintro e w2 ⟨q2, c2, rfl, hb2⟩)
        | (go_at_call 29; refine (HR.out _).mono ?_; rintro e w1 hp; obtain ⟨a, rfl, hb1, hn1⟩ := hp.some; have HN := hid (hn1.keep (fun _ _ _ => rfl) (fun _ _ _ => trivial)); clear hp hn1))
      go_ret2
      exact ⟨rfl, hb1.trans (hb2.mono hb1.size)⟩
end Go.Proofs.YtfogjomebcponaaGreatDoor
