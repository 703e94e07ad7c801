/- Merged: FaX. -/
import Derived.Test.YtknjpdbdchnpeaaFM20
import Derived.Test.YtknjpdbdchnpeaaFM22
import Derived.Test.YtknjpdbdchnpeaaFM18
import Derived.Test.YtknjpdbdchnpeaaFMSKidsI
import Derived.Test.YtknjpdbdchnpeaaFM15
namespace Go.Proofs.Ytknjpdbdchnpeaa
open Go.RowKit

set_option maxRecDepth 100000 in
set_option maxHeartbeats 4000000 in
theorem lawFunAtD {w : World} {p : Option Addr} {n c : Nat} {bs : List Int} (hl : bs.length = n) (hn : n ≤ 9223372036854775807) (hz : ∀ z ∈ bs, 0 ≤ z ∧ z ≤ 255) (hp : ∀ g o s, p = some ⟨g, o, s⟩ → n = 0 ∨ g < w.heap.size) (hv : Vals w p (u8s bs)) (hc : n ≤ c) :
    Calls Try.prog 10 #[.slice p n c] w fun e w' => e = .returned (.bool true) ∧ Below w.heap.size w w' := by
  by_cases h : n ≤ 1048576
  · have HD := hid (drawFunAt_any hl (by omega) hz hp hv hc)
    clear hl hz hp hv
    go_enter Try.func10, Try.ntmps10
    go_wp2_with fail
    go_at_call 35
    refine HD.out.mono ?_
    rintro e w1 ⟨s, k, st, rfl, hs, hb1⟩
    have HB1 := hid hb1
    clear hb1
    have HB := hid (fun a W => implFunAt_any s (by omega) k a W)
    have HA := hid (fun W => specFunAt_any s (by omega) k st W)
    cases hx : faX (around (readTy s) 62 62 k) k st with
    | none =>
      have HB2 := hid (fun W => (show Calls Try.prog 36 #[.string s, .int .i64 k, .int .i64 st] W fun e w' => e = .returned (.tuple #[.int .i64 0, .bool false]) ∧ Below W.heap.size W w' from by have h1 := HB.out st W; unfold FaPost at h1; rw [hx] at h1; exact h1))
      have HA2 := hid (fun W => (show Calls Try.prog 37 #[.string s, .int .i64 k, .int .i64 st] W fun e w' => e = .returned (.tuple #[.int .i64 0, .bool false]) ∧ Below W.heap.size W w' from by have h1 := HA.out W; unfold FaPost at h1; rw [hx] at h1; exact h1))
      clear hx HA HB
      go_wp2_with fail
      go_at_call 36
      refine (HB2.out _).mono ?_
      rintro e w2 ⟨rfl, hb2⟩
      have HC2 := hid (HB1.out.trans (hb2.mono HB1.out.size))
      clear hb2
      go_wp2_with fail
      go_at_call 37
      refine (HA2.out _).mono ?_
      rintro e w3 ⟨rfl, hb3⟩
      have HB3 := hid (HC2.out.trans (hb3.mono HC2.out.size))
      clear hb3
      go_wp2_with fail
      go_ret
      exact ⟨rfl, HB3.out⟩
    | some v =>
      obtain ⟨xs, har⟩ : ∃ xs, around (readTy s) 62 62 k = some xs := by
        cases h : around (readTy s) 62 62 k with
        | none => rw [h] at hx; simp [faX] at hx
        | some xs => exact ⟨xs, rfl⟩
      obtain ⟨x, y, cx, cy, kn, hr, hcx, hcy, rfl, hx2, hx5, hy2, hy5, rfl, hk5, hfo⟩ := fa_facts har
      have hst : 0 ≤ st ∧ st < (cx : Int) ∧ v = atN kn cy st.toNat := by
        rw [har, faX] at hx
        split at hx
        · rename_i hc; simp at hx; exact ⟨hc.1, hc.2, hx.symm⟩
        · simp at hx
      obtain ⟨h0, h1, hv⟩ := hst
      obtain ⟨a, rfl⟩ := Int.eq_ofNat_of_zero_le h0
      have hva : v = atN kn cy a := hv
      have hacx : a < cx := by omega
      have hvlt : v < cy := by rw [hva]; exact atN_lt (by omega)
      have HB2 := hid (fun W => (show Calls Try.prog 36 #[.string s, .int .i64 (kn : Int), .int .i64 (a : Int)] W fun e w' => e = .returned (.tuple #[.int .i64 (v : Int), .bool true]) ∧ Below W.heap.size W w' from by have h1 := HB.out (a : Int) W; unfold FaPost at h1; rw [hx] at h1; exact h1))
      have HA2 := hid (fun W => (show Calls Try.prog 37 #[.string s, .int .i64 (kn : Int), .int .i64 (a : Int)] W fun e w' => e = .returned (.tuple #[.int .i64 (v : Int), .bool true]) ∧ Below W.heap.size W w' from by have h1 := HA.out W; unfold FaPost at h1; rw [hx] at h1; exact h1))
      have HAT := hid (fun (i : Nat) (hi : i < cx) W => (show Calls Try.prog 36 #[.string s, .int .i64 (kn : Int), .int .i64 (i : Int)] W fun e w' => e = .returned (.tuple #[.int .i64 ((atN kn cy i : Nat) : Int), .bool true]) ∧ Below W.heap.size W w' from by have h1 := HB.out (i : Int) W; unfold FaPost at h1; rw [har, faX, if_pos ⟨by omega, by omega⟩] at h1; exact h1))
      have HKD := hid (fun W => ((implTypeKids_any s (by omega) W).mono fun e w' h => lw_kids_post h))
      rw [hr] at HKD
      have HKD2 := hid (fun W => (show Calls Try.prog 15 #[.string s] W (KdPost [x, y] 2 true W) from HKD.out W))
      have HK0 := hid (fun W => (show Calls Try.prog 26 #[.string x.text] W fun e w' => e = .returned (.int .i64 (cx : Int)) ∧ Below W.heap.size W w' from by
        have h0 : (Ty.fn x y).kids[0]? = some x := rfl
        have h1 := implTypeCount_any x.text (by have := lw_size hr h0; omega) W
        rw [lw_kid_read hr h0] at h1
        have h2 : cntO (some x) = (cx : Int) := by show cntV x.cnt = _; rw [hcx]; rfl
        rw [h2] at h1; exact h1))
      have HK1 := hid (fun W => (show Calls Try.prog 26 #[.string y.text] W fun e w' => e = .returned (.int .i64 (cy : Int)) ∧ Below W.heap.size W w' from by
        have h0 : (Ty.fn x y).kids[1]? = some y := rfl
        have h1 := implTypeCount_any y.text (by have := lw_size hr h0; omega) W
        rw [lw_kid_read hr h0] at h1
        have h2 : cntO (some y) = (cy : Int) := by show cntV y.cnt = _; rw [hcy]; rfl
        rw [h2] at h1; exact h1))
      have HFO := hid (fun (p : Option Addr) (d : Nat) W (hv : Vals W p (ints (digs kn cy cx))) => (show Calls Try.prog 38 #[.string s, .slice p cx d] W fun e w' => e = .returned (.tuple #[.int .i64 (kn : Int), .bool true]) ∧ Below W.heap.size W w' from by
        have h1 := implFunOf_any s (by omega) (digs kn cy cx) p cx d W (digs_len kn cy cx) (by omega) hv
        rw [hfo] at h1
        exact h1))
      have HVA := hid hva
      clear hx HA HB hr hcx hcy hfo HKD har hv h0 h1 hva
      go_wp2_with fail
      go_at_call 36
      refine (HB2.out _).mono ?_
      rintro e w2 ⟨rfl, hb2⟩
      have HC2 := hid (HB1.out.trans (hb2.mono HB1.out.size))
      clear hb2
      go_wp2_with fail
      go_at_call 37
      refine (HA2.out _).mono ?_
      rintro e w3 ⟨rfl, hb3⟩
      have HB3 := hid (HC2.out.trans (hb3.mono HC2.out.size))
      clear hb3
      go_wp2_with fail
      go_at_call 15
      refine (HKD2.out _).mono ?_
      rintro e w4 ⟨q, d, rfl, hv4, hu4, hb4⟩
      have HB4 := hid (HB3.out.trans (hb4.mono HB3.out.size))
      obtain ⟨b2, o2, hbo, hc0⟩ := hv4 0 (.string x.text) rfl
      obtain ⟨b3, o3, hbo3, hc1⟩ := hv4 1 (.string y.text) rfl
      subst hbo
      obtain ⟨rfl, rfl⟩ : b2 = b3 ∧ o2 = o3 := by simpa using hbo3
      have hlt4 := hu4 b2 o2 rfl
      have HC0 := hid (show w4.cell? ⟨b2, o2, none⟩ = some (.string x.text) from hc0)
      have HC1 := hid hc1
      clear hv4 hu4 hbo3 hc0 hc1
      clear hb4
      go_wp2_with fail
      go_loopw [12, 13] (fun v u wr => ∃ (i c : Nat) (q : Option Addr), i ≤ cx ∧ u = .int .i64 (i : Int) ∧ v = .slice q i c ∧ Hid (wr.ownsRow w4.heap.size 3 1 (.slice q i c) i (ints (digs kn cy i))) ∧ Hid (Below w4.heap.size w4 wr)) (fun _ u _ => cx - (intOf u).toNat)
      case atStart => exact ⟨0, 0, _, Nat.zero_le _, rfl, rfl, hid (own_zero rfl (Nat.le_refl _)), hid ((Below.refl _ _).alloc (Nat.le_refl _) _)⟩
      case round =>
        obtain ⟨i, c2, q2, hi, rfl, rfl, HOWN, hbel⟩ := hrel
        have hcc : wr.cell? ⟨b2, o2, none⟩ = some (.string x.text) := (hbel.out.cell (p := ⟨b2, o2, none⟩) hlt4).trans HC0.out
        have hz := hbel.out.size
        by_cases hlt : i < cx
        · have HAI := hid (HAT.out i hlt)
          have d1 : (i : Int) < (cx : Int) := by omega
          obtain ⟨D, hD⟩ : ∃ D, atN kn cy i = D := ⟨_, rfl⟩
          rw [hD] at HAI
          have HD2 := hid hD
          obtain ⟨i0, hi0, hz0, hz1, hz2⟩ := info_parts Try.infoInt
          clear hD
          go_wp2_with (first
            | (at_builtin; refine wpList_append_at _ rfl (.tmp 84) (.tmp 86) 44 rfl w4.heap.size 3 i0 (.int .i64 0) 1 8 Try.underlying44 hi0 hz0 hz1 hz2 rfl (by decide) (.slice q2 i c2) i _ rfl ((ownsRow_under HOWN.out HB7.out).alloc _) ⟨w7.heap.size, 0, none⟩ 1 1 [.int .i64 (D : Int)] rfl rfl (cells_new1 _ _ _ _ rfl) (by intro u hu; simp at hu; subst hu; rfl) (by decide) (by unfold maxLen; omega) (by omega) (by have := HB7.out.size; simp; omega) ?_; intro v' w8 hown8 hg8 hw8 hv8; obtain ⟨g8, kc8, rfl⟩ := hv8; have HG := hid hg8; have HO := hid hown8; clear hg8 hown8 hw8)
            | (go_at_call 36; have _ := HB6; refine (HAI.out _).mono ?_; rintro e w7 ⟨rfl, hb7⟩; have HB7 := hid (HB6.out.trans (hb7.mono HB6.out.size)); clear hb7)
            | (go_at_call 26; refine (HK0.out _).mono ?_; rintro e w6 ⟨rfl, hb6⟩; have HB6 := hid hb6; clear hb6))
          go_roundw
          case rel =>
            refine ⟨i + 1, kc8, some ⟨g8, 0, none⟩, by omega, by go_num, rfl, ?_, ?_⟩
            · rw [digs_succ, HD2.out, ints, List.map_append]; exact hid HO.out
            · have hlo := HOWN.out.lt
              have s1 := HB7.out.size
              exact hid (((hbel.out.trans (HB7.out.mono hz)).alloc (by omega) _).grown HG.out (by simp; omega) (fun k e => (hlo k e).1))
          case measure => simp [intOf]; omega
        · have hin : i = cx := by omega
          subst hin
          have HV := hid (vals_any HOWN.out)
          obtain ⟨g, o, hq2, hcv⟩ := HV.out a (.int .i64 (v : Int)) (by rw [HVA.out, ints, List.getElem?_map, digs_get hacx]; rfl)
          subst hq2
          have hgl := World.block_lt_of_cell? wr _ hcv
          have HBE := hid (HB4.out.trans (hbel.out.mono HB4.out.size))
          have HC1r := hid ((hbel.out.cell (p := ⟨b2, o2 + 1, none⟩) hlt4).trans HC1.out)
          have HLT := hid (Nat.lt_of_lt_of_le hlt4 hz)
          have HCV := hid hcv
          have HGL := hid hgl
          clear hcv hgl
          go_wp2_with (go_at_call 26; refine (HK0.out _).mono ?_; rintro e w6 ⟨rfl, hb6⟩; have HB6 := hid hb6; clear hb6)
          go_at_call 38
          refine (HFO.out _ _ w6 (fun j u hj => by obtain ⟨g3, o3, h3, h4⟩ := HV.out j u hj; exact ⟨g3, o3, h3, (HB6.out.cell (p := ⟨g3, o3 + j, none⟩) (World.block_lt_of_cell? wr _ h4)).trans h4⟩)).mono ?_
          rintro e w7 ⟨rfl, hb7⟩
          have HB67 := hid (HB6.out.trans (hb7.mono HB6.out.size))
          have hcd : w7.cell? ⟨b2, o2 + 1, none⟩ = some (.string y.text) := (HB67.out.cell (p := ⟨b2, o2 + 1, none⟩) HLT.out).trans HC1r.out
          clear hb7
          go_wp2_with fail
          go_at_call 26
          refine (HK1.out _).mono ?_
          rintro e w8 ⟨rfl, hb8⟩
          have HB68 := hid (HB67.out.trans (hb8.mono HB67.out.size))
          have hce : w8.cell? ⟨g, o + a, none⟩ = some (.int .i64 (v : Int)) := (HB68.out.cell (p := ⟨g, o + a, none⟩) HGL.out).trans HCV.out
          have HBZ := hid (HBE.out.trans (HB68.out.mono HBE.out.size))
          clear hb8
          go_wp2_with fail
          go_ret
          exact ⟨rfl, HBZ.out⟩

  · have h2 : 1048576 < n := by omega
    clear h hl hz hp hv
    go_enter Try.func10, Try.ntmps10
    go_wp2
    go_ret
    exact ⟨rfl, Below.refl _ _⟩
end Go.Proofs.Ytknjpdbdchnpeaa
