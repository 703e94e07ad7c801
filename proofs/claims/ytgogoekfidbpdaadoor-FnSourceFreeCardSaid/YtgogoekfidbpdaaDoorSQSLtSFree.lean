/- Merged: LtSFree. -/
import Derived.Deep.RegionHeld3
import Derived.Test.YtgogoekfidbpdaaDoorSQSDrwYSFree
import Derived.Test.YtgogoekfidbpdaaDoorSQSLsP
import Derived.Test.YtgogoekfidbpdaaDoorSQ9
import Derived.Test.YtgogoekfidbpdaaDoorSQ24
import Derived.Test.YtgogoekfidbpdaaDoorSQ12
import Derived.Test.YtgogoekfidbpdaaDoorSQ8
namespace Go.Proofs.YtgogoekfidbpdaaDoor
open Go.RowKit

theorem ls_under {w : World} {base : Nat} {e : TypeId} {q : Option Addr} {n c : Nat} {xs : List Value} (h : w.ownsRow base e 1 (.slice q n c) n xs) : ∀ b o, q = some ⟨b, o, none⟩ → b < w.heap.size := by
  intro b o e
  rcases h.2 with ⟨hv, _⟩ | ⟨g, cap, cur, hv, hbg, hg, _⟩
  · have : q = none := by simp at hv; exact hv.1
    rw [this] at e; cases e
  · obtain ⟨rfl, _⟩ : q = some ⟨g, 0, none⟩ ∧ c = cap := by simp at hv; exact hv
    simp at e
    have := lt_of_block hg
    omega
theorem ls_vals {w w' : World} {q : Option Addr} {l : List Value} {B : Nat} (h : Vals w q l) (hb : Below B w w') (hq : ∀ b o, q = some ⟨b, o, none⟩ → b < B) : Vals w' q l := fun i v hv =>
  let ⟨b, o, hp, hc⟩ := h i v hv
  ⟨b, o, hp, (hb.cell (p := ⟨b, o + i, none⟩) (hq b o hp)).trans hc⟩
/-- What a list that is answered leaves. -/
def LsPost (l : List ByteArray) (n : Nat) (b : Bool) (w : World) (e : Ending) (w' : World) : Prop :=
  ∃ q c, e = .returned (.tuple #[.slice q n c, .bool b]) ∧ SV w' q n c l ∧ Vals w' q (l.map .string) ∧ (∀ g o, q = some ⟨g, o, none⟩ → g < w'.heap.size) ∧ Below w.heap.size w w'
theorem ls_of {o : Option (List ByteArray)} {l : List ByteArray} {n : Nat} {b : Bool} {w w' : World} {e : Ending} (h : ListPost o w e w') (hl : o.getD [] = l) (hn : l.length = n) (hb : o.isSome = b) : LsPost l n b w e w' := by
  subst hl; subst hn; subst hb
  obtain ⟨⟨q, c, rfl, ho⟩, hb⟩ := h
  exact ⟨q, c, rfl, sv_own ho, vals_any ho, ls_under ho, hb⟩
theorem ls_mem {x : ByteArray} : ∀ (l acc : List ByteArray), x ∈ dedB acc l → x ∈ acc ∨ x ∈ l
  | [], acc, h => by rw [dedB] at h; exact Or.inl h
  | y :: l, acc, h => by
    rw [dedB] at h
    split at h
    · rcases ls_mem l acc h with h | h
      · exact Or.inl h
      · exact Or.inr (List.mem_cons_of_mem _ h)
    · rcases ls_mem l (acc ++ [y]) h with h | h
      · rcases List.mem_append.1 h with h | h
        · exact Or.inl h
        · exact Or.inr (by rw [List.mem_singleton.1 h]; exact List.mem_cons_self)
      · exact Or.inr (List.mem_cons_of_mem _ h)
theorem ls_has {l : List ByteArray} {i : Nat} {n : ByteArray} (h : l[i]? = some n) : hasB l n.toList = true := by
  induction l generalizing i with
  | nil => simp at h
  | cons x l ih =>
    rw [hasB_cons, Bool.or_eq_true]
    cases i with
    | zero => simp at h; subst h; left; simp
    | succ i => exact Or.inr (ih (by simpa using h))
theorem ls_size {n : ByteArray} (h : nameB n.toList = true) : n.size ≤ 4 := by
  have e : n.toList.length = n.size := by rw [Go.ByteArray.toList_eq]; rfl
  rw [← e]
  cases hl : n.toList with
  | nil => simp
  | cons c l =>
    rw [hl, nameB] at h
    simp only [Bool.and_eq_true, decide_eq_true_eq] at h
    simp; omega
/-- An expression in which a name is bound. -/
def lamS (n s : ByteArray) : ByteArray := ⟨#[40, 108, 97, 109, 32]⟩ ++ n ++ ⟨#[32, 98, 32]⟩ ++ s ++ ⟨#[41]⟩
theorem lamS_l (n s : ByteArray) : (lamS n s).data.toList = [40, 108, 97, 109, 32] ++ n.data.toList ++ [32, 98, 32] ++ s.data.toList ++ [41] := by
  simp only [lamS, ByteArray.data_append, Array.toList_append]
theorem lamS_size (n s : ByteArray) : (lamS n s).size = 5 + n.size + 3 + s.size + 1 := by
  simp only [lamS, ByteArray.size_append]; rfl
/-- What the law asks of each name. -/
theorem ls_step {s : ByteArray} {m : Sx} (h : readSx s = some m) {i : Nat} {n : ByteArray} (hn : (dedB [] m.fnm)[i]? = some n) :
    n.size ≤ 4 ∧ (sfX (lamS n s) = none ∨ sfX (lamS n s) = some (but n.toList (dedB [] m.fnm))) ∧ (but n.toList (dedB [] m.fnm)).length + 1 = (dedB [] m.fnm).length ∧ hasB (but n.toList (dedB [] m.fnm)) n.toList = false := by
  have hw := (readSx_wt h).2.2
  have hm : n ∈ m.fnm := by
    rcases ls_mem _ _ (List.mem_of_getElem? hn) with h | h
    · cases h
    · exact h
  have hb := fnm_nameB m hw n hm
  refine ⟨ls_size hb, sf_lam h hb (lamS_l n s), but_len _ (ded_ndS _ _ (fun i x hx => by simp at hx)) (ls_has hn), ?_⟩
  rw [but_has]; simp
theorem ls_typed {s : ByteArray} {m : Sx} (h : readSx s = some m) (ht : (stT s).isSome = true) : (dedB [] m.fnm).length = 0 := by
  rw [stT, stE, h] at ht
  cases hm : m.typ [] with
  | none => simp [hm] at ht
  | some t =>
    cases hf : m.fnm with
    | nil => simp [dedB]
    | cons x l =>
      obtain ⟨y, hy, _⟩ := typ_fnm m [] t hm x (by rw [hf]; simp)
      simp at hy

set_option maxRecDepth 100000 in
set_option maxHeartbeats 4000000 in
theorem lawSourceFreeD {w : World} {p : Option Addr} {n c : Nat} {bs : List Int} (hl : bs.length = n) (hn : n ≤ 9223372036854775807) (hz : ∀ z ∈ bs, 0 ≤ z ∧ z ≤ 255) (hp : ∀ g o s, p = some ⟨g, o, s⟩ → n = 0 ∨ g < w.heap.size) (hv : Vals w p (u8s bs)) (hc : n ≤ c) :
    Calls Tryd.prog 3 #[.slice p n c] w fun e w' => e = .returned (.bool true) ∧ Below w.heap.size w w' := by
  by_cases h : n ≤ 1048576
  · have HD := hid (drawSourceFree_any hl (by omega) hz hp hv hc)
    clear hl hz hp hv
    go_enter Tryd.func3, Tryd.ntmps3
    go_wp2_with fail
    go_at_call 4
    refine HD.out.mono ?_
    rintro e w1 ⟨s, rfl, hs, hb1⟩
    have HB1 := hid hb1
    clear hb1
    have HB := hid (fun W => implSourceFree_any s (by omega) W)
    have HA := hid (fun W => specSourceFree_any s (by omega) W)
    cases hx : readSx s with
    | none =>
      have hk := sfX_none hx
      have HB' := hid (fun W => (HB.out W).mono fun e w' h => ls_of (l := []) (n := 0) (b := false) h (by rw [hk]; rfl) rfl (by rw [hk]; rfl))
      have HA' := hid (fun W => (HA.out W).mono fun e w' h => ls_of (l := []) (n := 0) (b := false) h (by rw [hk]; rfl) rfl (by rw [hk]; rfl))
      clear hx hk HA HB
      go_wp2_with fail
      go_at_call 5
      refine (HB'.out _).mono ?_
      rintro e w2 ⟨q2, d2, rfl, hsv2, hv2, hu2, hb2⟩
      have HB2 := hid (HB1.out.trans (hb2.mono HB1.out.size))
      clear hsv2 hv2 hu2 hb2
      go_wp2_with fail
      go_at_call 6
      refine (HA'.out _).mono ?_
      rintro e w3 ⟨q3, d3, rfl, hsv3, hv3, hu3, hb3⟩
      have HB3 := hid (HB2.out.trans (hb3.mono HB2.out.size))
      clear hsv3 hv3 hu3 hb3
      go_wp2_with fail
      go_at_call 7
      refine (sameTexts_same [] _ _ 0 _ _ _ rfl (by omega) (fun i v h => by simp at h) (fun i v h => by simp at h)).mono ?_
      rintro e w4 ⟨rfl, hb4⟩
      have HB4 := hid (HB3.out.trans (hb4.mono HB3.out.size))
      clear hb4
      go_wp2_with fail
      go_at_call 7
      refine (sameTexts_same [] _ _ 0 _ _ _ rfl (by omega) (fun i v h => by simp at h) (fun i v h => by simp at h)).mono ?_
      rintro e w5 ⟨rfl, hb5⟩
      have HB5 := hid (HB4.out.trans (hb5.mono HB4.out.size))
      clear hb5
      go_wp2_with fail
      go_ret
      exact ⟨rfl, HB5.out⟩
    | some m =>
      have hk := sfX_some hx
      obtain ⟨F, hF⟩ : ∃ F, dedB [] m.fnm = F := ⟨_, rfl⟩
      obtain ⟨fn, hfn⟩ : ∃ fn, F.length = fn := ⟨_, rfl⟩
      have hfl : fn ≤ 12000 := by
        have h := sf_bound s
        rw [hk, hF] at h
        simp at h; omega
      have HST := hid (fun (i : Nat) (n : ByteArray) (h : F[i]? = some n) => (show n.size ≤ 4 ∧ (sfX (lamS n s) = none ∨ sfX (lamS n s) = some (but n.toList F)) ∧ (but n.toList F).length + 1 = F.length ∧ hasB (but n.toList F) n.toList = false from by
        have h2 := ls_step hx (by rw [hF]; exact h)
        rw [hF] at h2; exact h2))
      have hty : (stT s).isSome = true → fn = 0 := fun h => by rw [← hfn, ← hF]; exact ls_typed hx h
      have HT := hid (fun W => (implSourceType_any s (by omega) W).mono fun e w' (h : TxPost (stT s) W e w') => (show (∃ a b, e = .returned (.tuple #[.string a, .bool b]) ∧ (b = true → fn = 0)) ∧ Below W.heap.size W w' from ⟨⟨_, _, h.1, hty⟩, h.2⟩))
      have HB' := hid (fun W => (HB.out W).mono fun e w' h => (show (∃ q c, e = .returned (.tuple #[.slice q fn c, .bool true]) ∧ SV w' q fn c F ∧ Vals w' q (F.map .string) ∧ (∀ g o, q = some ⟨g, o, none⟩ → g < w'.heap.size) ∧ fn ≤ c) ∧ Below W.heap.size W w' from by
        obtain ⟨⟨q, c, rfl, ho⟩, hb⟩ := h
        rw [hk, hF] at ho ⊢
        have e1 : ((some F).getD []).length = fn := hfn
        rw [e1] at ho ⊢
        exact ⟨⟨q, c, rfl, sv_own ho, vals_any ho, ls_under ho, own_cap ho⟩, hb⟩))
      have HA' := hid (fun W => (HA.out W).mono fun e w' h => ls_of (l := F) (n := fn) (b := true) h (by rw [hk, hF]; rfl) hfn (by rw [hk]; rfl))
      have HFN := hid hfn
      clear hx hk HA HB hF hfn hty
      go_wp2_with fail
      go_at_call 5
      refine (HB'.out _).mono ?_
      rintro e w2 ⟨⟨q2, d2, rfl, hsv2, hv2, hu2, hc2⟩, hb2⟩
      have HB2 := hid (HB1.out.trans (hb2.mono HB1.out.size))
      have HSV2 := hid hsv2
      have HV2 := hid hv2
      have HU2 := hid hu2
      clear hsv2 hv2 hu2 hb2
      go_wp2_with fail
      go_at_call 6
      refine (HA'.out _).mono ?_
      rintro e w3 ⟨q3, d3, rfl, hsv3, hv3, hu3, hb3⟩
      have HB3 := hid (HB2.out.trans (hb3.mono HB2.out.size))
      have HV3 := hid hv3
      have HSV23 := hid (HSV2.out.under hb3 HU2.out)
      have HV23 := hid (ls_vals HV2.out hb3 HU2.out)
      have HU23 := hid (fun b o h => Nat.lt_of_lt_of_le (HU2.out b o h) hb3.size)
      clear hsv3 hv3 hu3 hb3
      go_wp2_with fail
      go_at_call 7
      refine (sameTexts_same F _ _ fn _ _ _ HFN.out (by omega) HV23.out HV3.out).mono ?_
      rintro e w4 ⟨rfl, hb4⟩
      have HB4 := hid (HB3.out.trans (hb4.mono HB3.out.size))
      have HSV4 := hid (HSV23.out.under hb4 HU23.out)
      have HU4 := hid (fun b o h => Nat.lt_of_lt_of_le (HU23.out b o h) hb4.size)
      clear hb4
      go_wp2_with fail
      go_at_call 8
      refine (HT.out _).mono ?_
      rintro e w5 ⟨⟨a, b, rfl, hpb⟩, hb5⟩
      have HB5 := hid (HB4.out.trans (hb5.mono HB4.out.size))
      have HSV5 := hid (HSV4.out.under hb5 HU4.out)
      have HU5 := hid (fun b o h => Nat.lt_of_lt_of_le (HU4.out b o h) hb5.size)
      clear hb5
      have hid2 : (fn : Int) ≤ (d2 : Int) := by omega
      cases b with
      | false =>
        clear hpb
        go_wp2_with fail
        go_loopw [10] (fun u wr => ∃ i : Nat, i ≤ fn ∧ u = .int .i64 (i : Int) ∧ Hid (Below w5.heap.size w5 wr)) (fun u _ => fn - (intOf u).toNat)
        case atStart => exact ⟨0, Nat.zero_le _, rfl, hid (Below.refl _ _)⟩
        case round =>
          obtain ⟨i, hi, rfl, hbel⟩ := hrel
          by_cases hlt : i < fn
          · obtain ⟨n, hn⟩ : ∃ n, F[i]? = some n := ⟨_, List.getElem?_eq_getElem (by rw [HFN.out]; exact hlt)⟩
            have HSVr := hid (HSV5.out.under hbel.out HU5.out)
            have HUr := hid (fun b o h => Nat.lt_of_lt_of_le (HU5.out b o h) hbel.out.size)
            obtain ⟨g, rfl, hcz⟩ := HSVr.out.2.2 i n hn
            obtain ⟨q1, q2, q3, q4⟩ := HST.out i n hn
            obtain ⟨k, hk⟩ : ∃ k, (but n.toList F).length = k := ⟨_, rfl⟩
            rw [hk, HFN.out] at q3
            obtain ⟨L, hL⟩ : ∃ L, but n.toList F = L := ⟨_, rfl⟩
            rw [hL] at hk q2 q4
            have hXz := lamS_size n s
            have HC := hid (fun W => implSourceFree_any (lamS n s) (by omega) W)
            have HK := hid hk
            have HQ := hid q4
            have hgl := HUr.out g 0 rfl
            clear hn hk hL q4
            have v0 : ¬ 9223372036854775807 < 5 + n.size := by omega
            have v1 : ¬ 9223372036854775807 < 5 + n.size + 3 := by omega
            have v2 : ¬ 9223372036854775807 < 5 + n.size + 3 + s.size := by omega
            have v3 : ¬ 9223372036854775807 < 5 + n.size + 3 + s.size + 1 := by omega
            rcases q2 with q2 | q2
            · have HC' := hid (fun W => (HC.out W).mono fun e w' h => ls_of (l := []) (n := 0) (b := false) h (by rw [q2]; rfl) rfl (by rw [q2]; rfl))
              clear q2 HC hXz
              go_wp2_with fail
              go_at_call 5
              refine (HC'.out _).mono ?_
              rintro e w6 ⟨q6, d6, rfl, hsv6, hv6, hu6, hb6⟩
              have HB6 := hid (hbel.out.trans (hb6.mono hbel.out.size))
              clear hsv6 hv6 hu6 hb6
              go_wp2_with fail
              go_roundw
              case rel => exact ⟨i + 1, by omega, by go_num, HB6⟩
              case measure => simp [intOf]; omega
            · have HC' := hid (fun W => (HC.out W).mono fun e w' h => ls_of (l := L) (n := k) (b := true) h (by rw [q2]; rfl) HK.out (by rw [q2]; rfl))
              clear q2 HC hXz
              go_wp2_with fail
              go_at_call 5
              refine (HC'.out _).mono ?_
              rintro e w6 ⟨q6, d6, rfl, hsv6, hv6, hu6, hb6⟩
              have HB6 := hid (hbel.out.trans (hb6.mono hbel.out.size))
              have hc6 := (hb6.cell (p := ⟨g, i, none⟩) hgl).trans hcz
              have hbd : Below w6.heap.size w6 w6.drew := (Below.refl _ _).drew
              have HHT := hid (fun W (h : SV W q6 k d6 L) => (show Calls Tryd.prog 9 #[.slice q6 k d6, .string n] W fun e w' => e = .returned (.bool false) ∧ W = w' from by
                have h1 := hasText_any n L _ k d6 W h (by omega)
                rw [HQ.out] at h1; exact h1))
              have HSV6 := hid hsv6
              have HSV6d := hid (hsv6.under hbd hu6)
              have HB6d := hid (HB6.out.trans (hbd.mono HB6.out.size))
              have hgl6 : g < w6.heap.size := Nat.lt_of_lt_of_le hgl hb6.size
              have hc6d := (hbd.cell (p := ⟨g, i, none⟩) hgl6).trans hc6
              have hkf : (k : Int) = (fn : Int) - 1 := by omega
              have hwk : IntKind.i64.wrap ((fn : Int) - 1) = (fn : Int) - 1 := IntWalk.i64_in _ (by omega)
              have hkn : ((k : Int) != (fn : Int) - 1) = false := by rw [hkf]; simp
              clear hsv6 hv6 hu6 hb6 hbd
              go_wp2_with fail
              go_at_call 9
              refine (HHT.out _ (by first | exact HSV6.out | exact HSV6d.out)).mono ?_
              rintro e w7 ⟨rfl, rfl⟩
              go_wp2_with fail
              go_roundw
              case rel => exact ⟨i + 1, by omega, by go_num, by first | exact HB6 | exact HB6d⟩
              case measure => simp [intOf]; omega
          · have hin : i = fn := by omega
            subst hin
            have HBE := hid (HB5.out.trans (hbel.out.mono HB5.out.size))
            clear hbel
            go_wp2_with fail
            go_ret
            exact ⟨rfl, HBE.out⟩
      | true =>
        have hf0 : fn = 0 := hpb rfl
        have hf1 : ¬ (0 : Int) < (fn : Int) := by omega
        clear hpb
        go_wp2_with fail
        go_loopw [10] (fun u wr => ∃ i : Nat, i ≤ fn ∧ u = .int .i64 (i : Int) ∧ Hid (Below w5.heap.size w5 wr)) (fun u _ => fn - (intOf u).toNat)
        case atStart => exact ⟨0, Nat.zero_le _, rfl, hid (Below.refl _ _)⟩
        case round =>
          obtain ⟨i, hi, rfl, hbel⟩ := hrel
          by_cases hlt : i < fn
          · exfalso; omega
          · have hin : i = fn := by omega
            subst hin
            have HBE := hid (HB5.out.trans (hbel.out.mono HB5.out.size))
            clear hbel
            go_wp2_with fail
            go_ret
            exact ⟨rfl, HBE.out⟩
  · have h2 : 1048576 < (n : Int) := by omega
    clear hl hz hp hv
    go_enter Tryd.func3, Tryd.ntmps3
    go_wp2_with fail
    go_ret
    exact ⟨rfl, Below.refl _ _⟩
end Go.Proofs.YtgogoekfidbpdaaDoor
