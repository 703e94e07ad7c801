/- The program's FunOf, walked. -/
import Derived.Test.YtmffcicpiialcaaFunO
import Derived.Test.YtmffcicpiialcaaLawI1
namespace Go.Proofs.Ytmffcicpiialcaa
open Go.RowKit

/-- What FunOf tells, of the counts around. -/
def foX (o : Option (List Nat)) (zs : List Int) : Option Nat := match o with
  | some [x, y] => if zs.length = x ∧ ∀ z ∈ zs, 0 ≤ z ∧ z < (y : Int) then some (hor y (zs.map Int.toNat)) else none
  | _ => none
theorem foX_no {x y i : Nat} {zs : List Int} {z : Int} (h : zs[i]? = some z) (hz : ¬ (0 ≤ z ∧ z < (y : Int))) : foX (some [x, y]) zs = none := by
  rw [foX, if_neg]; exact fun hh => hz (hh.2 z (List.mem_of_getElem? h))
theorem foX_yes {x y : Nat} {zs : List Int} (hl : zs.length = x) (h : ∀ z ∈ zs, 0 ≤ z ∧ z < (y : Int)) : foX (some [x, y]) zs = some (hor y (zs.map Int.toNat)) := by
  rw [foX, if_pos ⟨hl, h⟩]
theorem foX_len {x y : Nat} {zs : List Int} (hl : zs.length ≠ x) : foX (some [x, y]) zs = none := by
  rw [foX, if_neg]; exact fun hh => hl hh.1
theorem fn_bound {x y : Ty} {n a b : Nat} (h : (Ty.fn x y).cnt = some n) (hx : x.cnt = some a) (hy : y.cnt = some b) : b ^ a ≤ 5000 := by
  rw [Ty.cnt, hx, hy] at h
  simp only at h
  exact (capped_some h).2
theorem ok_snoc {zs : List Int} {i y : Nat} {z : Int} (h : ∀ z ∈ zs.take i, 0 ≤ z ∧ z < (y : Int)) (hz : zs[i]? = some z) (hok : 0 ≤ z ∧ z < (y : Int)) : ∀ z ∈ zs.take (i + 1), 0 ≤ z ∧ z < (y : Int) := by
  rw [List.take_add_one, hz]
  intro u hu
  rcases List.mem_append.1 hu with h1 | h1
  · exact h u h1
  · simp at h1; subst h1; exact hok
theorem hor_take {zs : List Int} {i y zn : Nat} (hz : zs[i]? = some (zn : Int)) (hi : i < zs.length) : hor y ((zs.take (i + 1)).map Int.toNat) = hor y ((zs.take i).map Int.toNat) + y ^ i * zn := by
  rw [List.take_add_one, hz, List.map_append, hor_append, List.length_map, List.length_take_of_le (by omega)]
  simp [hor]
theorem hor_take_lt {zs : List Int} {i y : Nat} (hy : 1 ≤ y) (h : ∀ z ∈ zs.take i, 0 ≤ z ∧ z < (y : Int)) (hi : i ≤ zs.length) : hor y ((zs.take i).map Int.toNat) < y ^ i := by
  have := hor_lt y hy ((zs.take i).map Int.toNat) (by
    intro c hc
    obtain ⟨z, hz, rfl⟩ := List.mem_map.1 hc
    have := h z hz; omega)
  rwa [List.length_map, List.length_take_of_le hi] at this
theorem hor_drop {zs : List Int} {i y zn : Nat} (hz : zs[i]? = some (zn : Int)) : hor y ((zs.drop i).map Int.toNat) = zn + y * hor y ((zs.drop (i + 1)).map Int.toNat) := by
  have hi : i < zs.length := (List.getElem?_eq_some_iff.1 hz).1
  rw [List.drop_eq_getElem_cons hi]
  have : zs[i] = (zn : Int) := by rw [List.getElem?_eq_getElem hi] at hz; simpa using hz
  rw [this]; rfl
theorem hor_drop_lt {zs : List Int} {i y : Nat} (hy : 1 ≤ y) (h : ∀ z ∈ zs, 0 ≤ z ∧ z < (y : Int)) : hor y ((zs.drop i).map Int.toNat) < y ^ zs.length := by
  have := hor_lt y hy ((zs.drop i).map Int.toNat) (by
    intro c hc
    obtain ⟨z, hz, rfl⟩ := List.mem_map.1 hc
    have := h z (List.mem_of_mem_drop hz); omega)
  rw [List.length_map, List.length_drop] at this
  exact Nat.lt_of_lt_of_le this (pow_le y _ _ hy (by omega))

set_option maxRecDepth 100000 in
set_option maxHeartbeats 2000000 in
theorem implFunOf_any (s : ByteArray) (hs : s.size ≤ 400000000) (zs : List Int) (p : Option Addr) (n c : Nat) (w : World) (hn : zs.length = n) (hnb : n ≤ 400000000) (hv : Vals w p (ints zs)) :
    Calls Try.prog 5 #[.string s, .slice p n c] w (FaPost (foX (around (readTy s) 62 62 0) zs) w) := by
  have HC := hid (fun W => around_any s ⟨#[62]⟩ hs 62 62 (by decide) (by decide) 0 W heads_fn)
  have HVL := hid hv
  have HN := hid hn
  clear hv hn
  rcases elem_cases s 62 62 0 with ⟨h1, h2⟩ | ⟨ty, t, xs, N, h1, h2, hty, hkc, hh, hN, hk0, hkn, hn5, hw⟩
  · have H1 := hid h1
    have HX := hid (show foX (around (readTy s) 62 62 0) zs = none by rw [h1]; rfl)
    clear h1 h2
    go_enter Try.func5, Try.ntmps5
    go_wp2_with (go_at_call 13; refine (HC.out _).mono ?_; rintro e w1 hp; rw [H1.out] at hp; obtain ⟨rfl, hb1⟩ := hp.none; clear hp)
    go_ret2
    rw [HX.out]
    exact ⟨rfl, hb1⟩
  · obtain ⟨x, y, rfl, hxy⟩ := fn_kids hh
    rw [hxy] at hkc
    obtain ⟨cx, cy, rfl, hcx, hcy, hx2, hx5, hy2, hy5⟩ := kc_two hkc
    have H1 := hid h1
    have hpw := fn_bound hN hcx hcy
    by_cases hnx : n = cx
    · subst hnx
      have HNO := hid (fun (i : Nat) (z : Int) (h : zs[i]? = some z) (hz : ¬ (0 ≤ z ∧ z < (cy : Int))) => (show foX (around (readTy s) 62 62 0) zs = none by rw [h1]; exact foX_no h hz))
      have HYES := hid (fun (h : ∀ z ∈ zs, 0 ≤ z ∧ z < (cy : Int)) => (show foX (around (readTy s) 62 62 0) zs = some (hor cy (zs.map Int.toNat)) by rw [h1]; exact foX_yes HN.out h))
      have HPW := hid (fun i (hi : i ≤ n) => Nat.le_trans (pow_le cy i n (by omega) hi) hpw)
      have hnn : ((n : Int) != (n : Int)) = false := by simp
      clear h1 h2 hty hkc hh hN hw hxy hcx hcy hpw
      go_enter Try.func5, Try.ntmps5
      go_wp2_with (go_at_call 13; refine (HC.out _).mono ?_; rintro e w1 hp; rw [H1.out] at hp; obtain ⟨q, c3, rfl, hv, hb1⟩ := hp.some; clear hp; obtain ⟨g, rfl, hc1⟩ := hv 0 _ rfl; obtain ⟨g2, hg2, hc2⟩ := hv 1 _ rfl; obtain rfl : g = g2 := (by simpa using hg2); clear hv hg2)
      have HV1 := hid (HVL.out.kept (Kept.of_below hb1 (Nat.le_refl _)))
      have HFO := hid (fun (h : ∀ z ∈ zs, 0 ≤ z ∧ z < (cy : Int)) => funOf_any zs cy p n c w1 HN.out hnb hy2 hy5 h (HPW.out n (Nat.le_refl _)) HV1.out (fun b o hb => by
        obtain ⟨z, hz⟩ : ∃ z, zs[0]? = some z := ⟨_, List.getElem?_eq_getElem (by rw [HN.out]; omega)⟩
        obtain ⟨b2, o2, hb2, hc⟩ := HV1.out 0 _ (ints_get hz)
        rw [hb] at hb2
        have e : b = b2 := by simpa using (Option.some.inj hb2 ▸ rfl : (⟨b, o, none⟩ : Addr).block = b2)
        rw [e]; exact World.block_lt_of_cell? w1 _ hc))
      go_loop [27] (fun r => ∃ i : Nat, i ≤ n ∧ r = .int .i64 (i : Int) ∧ Hid (∀ z ∈ zs.take i, 0 ≤ z ∧ z < (cy : Int))) (fun r => n - (intOf r).toNat)
      case atStart => exact ⟨0, Nat.zero_le _, rfl, by intro z hz; simp at hz⟩
      case round =>
        obtain ⟨i, hi, rfl, hok⟩ := hrel
        by_cases hlt : i < n
        · obtain ⟨z, hz⟩ : ∃ z, zs[i]? = some z := ⟨_, List.getElem?_eq_getElem (by rw [HN.out]; exact hlt)⟩
          obtain ⟨b, o, rfl, hcz⟩ := HV1.out i _ (ints_get hz)
          have HI := hid (fun W => isElement_any z (cy : Int) W)
          by_cases hzz : 0 ≤ z ∧ z < (cy : Int)
          · rw [decide_eq_true hzz] at HI
            have HOK := hid (ok_snoc hok.out hz hzz)
            clear hz hzz
            go_wp2_with (go_at_call 14; refine (HI.out _).mono ?_; rintro e w2 ⟨rfl, rfl⟩)
            go_round
            case rel => exact ⟨i + 1, by omega, by go_num, HOK.out⟩
            case measure => simp [intOf]; omega
          · rw [decide_eq_false hzz] at HI
            have HX := hid (HNO.out i z hz hzz)
            clear hz hzz
            go_wp2_with (go_at_call 14; refine (HI.out _).mono ?_; rintro e w2 ⟨rfl, rfl⟩)
            go_ret2
            rw [HX.out]
            exact ⟨rfl, hb1⟩
        · have hin : i = n := by omega
          have HIN := hid hin
          clear hin
          have ht : zs.take i = zs := List.take_of_length_le (by rw [HN.out, HIN.out]; exact Nat.le_refl _)
          have h2 := hok.out
          rw [ht] at h2
          have H2 := hid h2
          clear h2 ht
          go_wp2_with (go_at_call 15; refine (HFO.out H2.out).mono ?_; rintro e w2 ⟨rfl, hb2⟩)
          go_ret2
          rw [HYES.out H2.out]
          exact ⟨rfl, hb1.trans (hb2.mono hb1.size)⟩
    · have HX := hid (show foX (around (readTy s) 62 62 0) zs = none by rw [h1]; exact foX_len (by rw [HN.out]; exact hnx))
      have hnn : ((n : Int) != (cx : Int)) = true := bne_iff_ne.2 (by omega)
      clear h1 h2 hty hkc hh hN hw hxy hcx hcy hpw hnx
      go_enter Try.func5, Try.ntmps5
      go_wp2_with (go_at_call 13; refine (HC.out _).mono ?_; rintro e w1 hp; rw [H1.out] at hp; obtain ⟨q, c3, rfl, hv, hb1⟩ := hp.some; clear hp; obtain ⟨g, rfl, hc1⟩ := hv 0 _ rfl; clear hv)
      go_ret2
      rw [HX.out]
      exact ⟨rfl, hb1⟩

end Go.Proofs.Ytmffcicpiialcaa
