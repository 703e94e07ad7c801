/- Merged: DrwN. -/
import Derived.Deep.QuietTactic
import Derived.BigQuiet
import Derived.Test.YthpcmglnooemaaaGreatDoorWASDmM
namespace Go.Proofs.YthpcmglnooemaaaGreatDoor
open Go.RowKit

def bitL : List ByteArray := [⟨#[48]⟩, ⟨#[49]⟩]
theorem bitL_lit (W : World) : SV (W.alloc (.cells #[.string ⟨#[48]⟩, .string ⟨#[49]⟩] 9)) (some ⟨W.heap.size, 0, none⟩) 2 2 bitL := sv_lit W bitL 2 2 9 rfl
theorem bitL_small : ∀ s ∈ bitL, s.size ≤ 1 := by intro s hs; simp only [bitL, List.mem_cons, List.mem_nil_iff, or_false] at hs; rcases hs with rfl | rfl <;> decide

theorem mV_pair (d x y n : Nat) (h : x + y + 5 ≤ n) : mV d x + mV d y + 10 ≤ mV d n := by
  unfold mV
  have h1 : (6 * mA d + 60) * (x + 1) + (6 * mA d + 60) * (y + 1) = (6 * mA d + 60) * (x + y + 2) := by rw [← Nat.mul_add]; congr 1; omega
  have h2 : (6 * mA d + 60) * (x + y + 6) ≤ (6 * mA d + 60) * (n + 1) := Nat.mul_le_mul_left _ (by omega)
  have h3 : (6 * mA d + 60) * (x + y + 6) = (6 * mA d + 60) * (x + y + 2) + (6 * mA d + 60) * 4 := by rw [← Nat.mul_add]
  omega
theorem mV_thunk (d x n : Nat) (h : x + 4 ≤ n) : mC d x + 12 ≤ mV d n := by
  rw [mC_eq, mV_eq]
  have h2 : mA d * (x + 4) ≤ mA d * n := Nat.mul_le_mul_left _ h
  rw [Nat.mul_add] at h2
  omega
/-- The cells that a draw of parts loads. -/
structure PtW (W : World) (B : Nat) (p q : Option Addr) (n c e g o : Nat) (x y : ByteArray) : Prop where
  c0 : W.cell? ⟨B, 0, none⟩ = some (.slice p n c)
  c1 : W.cell? ⟨B, 1, none⟩ = some (.slice q n e)
  k0 : W.cell? ⟨g, o, none⟩ = some (.string x)
  k1 : W.cell? ⟨g, o + 1, none⟩ = some (.string y)
theorem PtW.px {W W' : World} {B b r : Nat} {p q : Option Addr} {n c e g o : Nat} {x y : ByteArray} (h : PtW W B p q n c e g o x y) (hr : Rd W b r) (hB : B ≠ b) (hx : Px b W W') : PtW W' B p q n c e g o x y :=
  ⟨hx.cell hB h.c0, hx.cell hB h.c1, hx.cell (rd_ne1 hr h.k0) h.k0, hx.cell (rd_ne1 hr h.k1) h.k1⟩
theorem px_drew (b : Nat) (W : World) : Px b W W.drew := Px.below (Below.refl W.heap.size W).drew (Nat.le_refl _)

/-- A draw of a text that keeps the cells of parts. -/
def DrawnK (b r S : Nat) (W : World) (B : Nat) (p q : Option Addr) (n c e g o : Nat) (x y : ByteArray) (en : Ending) (w' : World) : Prop :=
  ∃ s : ByteArray, en = .returned (.string s) ∧ s.size ≤ S ∧ Rd w' b r ∧ Px b W w' ∧ PtW w' B p q n c e g o x y
theorem Drawn.keep {b r r0 S : Nat} {W w' : World} {en : Ending} (h : Drawn b r S W en w') {B : Nat} {p q : Option Addr} {n c e g o : Nat} {x y : ByteArray} (hb : PtW W B p q n c e g o x y) (hr : Rd W b r0) (hB : B ≠ b) : DrawnK b r S W B p q n c e g o x y en w' := by
  obtain ⟨s, he, hs, hr', hp⟩ := h
  exact ⟨s, he, hs, hr', hp, hb.px hr hB hp⟩

theorem small_snoc {l : List ByteArray} (h : ∀ s ∈ l, s.size ≤ 60) (x : ByteArray) (hx : x.size ≤ 60) : ∀ s ∈ l ++ [x], s.size ≤ 60 := by
  intro s hs
  rcases List.mem_append.1 hs with hs | hs
  · exact h s hs
  · simp at hs; subst hs; exact hx

set_option maxRecDepth 100000 in
set_option maxHeartbeats 16000000 in
theorem l91V_gen {b d : Nat} {f g : Nat → Nat} (hg0 : ∀ n, 60 ≤ g n ∧ n ≤ g n) (hgp : ∀ x y n, x + y + 5 ≤ n → g x + g y + 10 ≤ g n) (hgu : ∀ x n, x + 4 ≤ n → f x + 12 ≤ g n) {want : ByteArray} (hS : g want.size ≤ 400000000)
    (hM : ∀ k : Ty, readTy want = some (.thunk k) → TermDraw 83 b d k.text (f k.text.size))
    (hV : ∀ x y : Ty, readTy want = some (.pair x y) → TermDraw 93 b d x.text (g x.text.size) ∧ TermDraw 93 b d y.text (g y.text.size)) :
    TermDraw 93 b d want (g want.size) := by
  intro r w p q n c e ns ts j hsc hr hq hn6 hj
  subst hj
  have HS := hid hsc
  have HR := hid hr
  have hlt := hr.lt
  have hsn := hsc.n20
  have HN := hid hsc.a.1
  have HM := hid hsc.b.1
  have HVN := hid (sv_vals hsc.a)
  have HVT := hid (sv_vals hsc.b)
  have HL3 := hid (fun (s : ByteArray) (W : World) (hk : Kept w W) => l3Look_any s ns ts p q n c e W HN.out HM.out (by omega) (HVN.out.kept hk) (HVT.out.kept hk))
  have hzb : (w.alloc (.cells #[.slice p n c, .slice q n e] 90)).heap.size = w.heap.size + 1 := by simp
  have HO0 := own_empty (w.alloc (.cells #[.slice p n c, .slice q n e] 90)) (w.heap.size + 1) (by rw [hzb]; exact Nat.le_refl _)
  rw [hzb] at HO0
  have HO0 := hid HO0
  have HCB := hid (cells_of_pair (heap_new w (.cells #[.slice p n c, .slice q n e] 90) _ rfl))
  have HKB := hid (show Kept w (w.alloc (.cells #[.slice p n c, .slice q n e] 90)) from (Kept.refl w).alloc (Nat.le_refl _) _)
  have hwz : want.size ≤ 400000000 := Nat.le_trans (hg0 want.size).2 hS
  have HG0 := hid (hg0 want.size)
  obtain ⟨G, hG⟩ : ∃ G, g want.size = G := ⟨_, rfl⟩
  have HGE := hid hG
  rw [hG] at HG0 hq ⊢
  have HMH := hid hM
  have HVH := hid hV
  have HGP := hid hgp
  have HGU := hid hgu
  have HPX := hid (fun (W : World) (hx : Px b (w.alloc (.cells #[.slice p n c, .slice q n e] 90)) W) => (show Px b w W from ((Px.refl b w).alloc _).trans hx))
  clear hsc hr hG hM hV hS hg0 hgp hgu
  go_enter Tryz.func93, Tryz.ntmps93
  go_wp2_with fail
  go_loopw [9, 10] (fun v u wr => ∃ (i m k : Nat) (z : Option Addr) (fl : List ByteArray), i ≤ n ∧ u = .int .i64 (i : Int) ∧ v = .slice z m k ∧ fl.length = m ∧ m ≤ i ∧ Hid (wr.ownsRow (w.heap.size + 1) 9 1 (.slice z m k) m (fl.map Value.string)) ∧ Hid (∀ s ∈ fl, s.size ≤ 60) ∧ Hid (Below (w.heap.size + 1) (w.alloc (.cells #[.slice p n c, .slice q n e] 90)) wr)) (fun _ u _ => n - (intOf u).toNat)
  case atStart => exact ⟨0, 0, 0, some ⟨w.heap.size + 1, 0, none⟩, [], Nat.zero_le _, rfl, rfl, rfl, Nat.le_refl _, HO0, hid (fun s h => by cases h), hid ((Below.refl _ _).alloc (by simp) _)⟩
  case round =>
    obtain ⟨i, m, k, z, fl, hi, rfl, rfl, hfl, hmi, hown, hsm, hbel⟩ := hrel
    have hz := hbel.out.size
    have hkw := HKB.out.below hbel.out (by omega)
    have cb0 := (hbel.out.cell (p := ⟨w.heap.size, 0, none⟩) (by show w.heap.size < _; omega)).trans HCB.out.1
    have cb1 := (hbel.out.cell (p := ⟨w.heap.size, 1, none⟩) (by show w.heap.size < _; omega)).trans HCB.out.2.1
    have HKW := hid hkw
    by_cases hlt2 : i < n
    · obtain ⟨x, hx⟩ : ∃ x, ns[i]? = some x := ⟨_, List.getElem?_eq_getElem (by rw [HN.out]; exact hlt2)⟩
      obtain ⟨b2, o2, hbo, hcz⟩ := HVN.out i (.string x) (by rw [List.getElem?_map, hx]; rfl)
      subst hbo
      have hcc := hkw.cell hcz
      have HC := hid (HL3.out x)
      have hx60 := HS.out.na x (List.mem_of_getElem? hx)
      have d1 : (i : Int) < (n : Int) := by omega
      obtain ⟨R, hR⟩ : ∃ R, l3 x.toList ns ts n = R := ⟨_, rfl⟩
      rw [hR] at HC
      have HCq := hid (fun (m : Nat) => (HC.out (wr.drewN m) (HKW.out.below (below_drewN (Below.refl wr.heap.size wr) m) (Nat.le_trans (by simp) hz))).mono fun e w' h => (show e = .returned (.string R) ∧ w' = wr.drewN m from ⟨h.1, h.2.symm⟩))
      clear hcz hx hR hkw
      go_wp2_with fail
      go_quiet ((go_at_call 117; exact Calls.quiet_of_same (HCq.out _)))
      obtain ⟨i0, hi0, hz0, hz1, hz2⟩ := info_parts Tryz.infoStr
      have hi20 : i ≤ 20 := by omega
      have hqb : ∀ mm, Below wr.heap.size wr (wr.drewN mm) := fun mm => below_drewN (Below.refl wr.heap.size wr) mm
      have HQB := hid hqb
      have hmz : wr.heap.size = wr.heap.size := rfl
      clear hqb hmz
      cases hb : R.toList == want.toList with
      | false =>
        go_wp2_with fail
        go_roundw
        case rel => exact ⟨i + 1, m, k, z, fl, by omega, by go_num, rfl, hfl, by omega, hid (ownsRow_under hown.out (HQB.out _)), hsm, hid (hbel.out.trans ((HQB.out _).mono (by omega)))⟩
        case measure => simp [intOf]; omega
      | true =>
        go_wp2_with (at_builtin; refine wpList_append_at _ rfl (.tmp 33) (.tmp 39) 25 rfl (w.heap.size + 1) 9 i0 (.string ByteArray.empty) 1 16 Tryz.underlying25 hi0 hz0 hz1 hz2 rfl (by decide) (.slice z m k) m _ rfl ((ownsRow_under hown.out (HQB.out _)).alloc _) ⟨wr.heap.size, 0, none⟩ 1 1 [.string x] rfl rfl (cells_new1 _ _ _ _ rfl) (by intro u hu; simp at hu; subst hu; rfl) (by decide) (by unfold maxLen; omega) (by omega) (by have := HQB.out 0; simp; omega) ?_; intro v' w8 hown8 hg8 hw8 hv8; obtain ⟨g8, kc8, rfl⟩ := hv8; have HG := hid hg8; have HO := hid hown8; clear hg8 hown8 hw8)
        go_roundw
        case rel =>
          refine ⟨i + 1, m + 1, kc8, some ⟨g8, 0, none⟩, fl ++ [x], by omega, by go_num, rfl, by simp [hfl], by omega, hid (by rw [List.map_append]; exact HO.out), hid (small_snoc hsm.out x hx60), ?_⟩
          have hlo := hown.out.lt
          exact hid (((hbel.out.trans ((HQB.out _).mono (by omega))).alloc (by simp; omega) _).grown HG.out (by simp; omega) (fun k e => by have := (hlo k e).1; omega))
        case measure => simp [intOf]; omega
    · have hin : i = n := by omega
      subst hin
      have HX1 := hid (show Px b (w.alloc (.cells #[.slice p i c, .slice q i e] 90)) wr from Px.below hbel.out (by omega))
      have HR1 := hid ((HR.out.alloc _).below hbel.out (by omega) (by omega))
      have SB0 := hid cb0
      have SB1 := hid cb1
      have HSC := hid (fun (W : World) (hx : Px b wr W) => (HS.out.px HR.out (HPX.out _ (HX1.out.trans hx))))
      have HFV := hid (vals_any hown.out)
      have HOB := hid hown.out.lt
      clear hbel hkw HKW HKB HCB HO0 HL3 HVN HVT hzb hz
      by_cases hm0 : m = 0
      · subst hm0
        have HX3 := hid (Px.refl b wr)
        have HR3 := HR1
        cases hrd : readTy want with
        | none =>
          have HKD := hid (fun W => (specTypeKids_any want hwz W).mono fun e w' h => lw_kids_post h)
          have HHD := hid (fun W => specTypeHead_any want hwz W)
          rw [hrd] at HKD HHD
          have HKD2 := hid (fun W => (show Calls Tryz.prog 106 #[.string want] W (KdPost [] 0 false W) from HKD.out W))
          have HHD2 := hid (fun W => (show Calls Tryz.prog 107 #[.string want] W fun e w' => e = .returned (.string (ByteArray.empty)) ∧ Below W.heap.size W w' from HHD.out W))
          clear HKD HHD hrd
          go_wp2_with fail
          go_at_call 106
          refine (HKD2.out _).mono ?_
          rintro e w4 ⟨q4, d4, rfl, hv4, hu4, hb4⟩
          have HR4 := hid (HR3.out.below hb4 HR3.out.lt (Nat.le_refl _))
          have HX4 := hid (HX3.out.trans (Px.below hb4 (Nat.le_refl _)))
          clear hv4 hu4 hb4
          go_wp2_with fail
          go_at_call 107
          refine (HHD2.out _).mono ?_
          rintro e w5 ⟨rfl, hb5⟩
          have hp5 : Px b w4 w5 := Px.below hb5 (Nat.le_refl _)
          have HR5 := hid (HR4.out.below hb5 HR4.out.lt (Nat.le_refl _))
          have HX5 := hid (HX4.out.trans hp5)
          clear hb5 hp5
          have sc0_5 := HX5.out.cell (b := b) (by show w.heap.size ≠ b; omega) SB0.out
          have sc1_5 := HX5.out.cell (b := b) (by show w.heap.size ≠ b; omega) SB1.out
          go_wp2_with fail
          go_at_call 48
          refine (rof_any (HR5.out.alloc _) (by omega) w5.heap.size 2 2 1 bitL (bitL_lit w5) (by omega) (by omega) (by have := HR5.out.lt; omega) bitL_small).mono ?_
          rintro e w6 ⟨s6, rfl, hs6, hr6, hp6⟩
          have HR6 := hid hr6
          have HX6 := hid ((HX5.out.alloc _).trans hp6)
          have HS6 := hid hs6
          clear hr6 hp6 hs6
          go_wp2_with fail
          go_ret
          exact ⟨_, rfl, by have := HS6.out; have := HG0.out; omega, HR6.out.le (by have := HG0.out; omega), HPX.out _ (HX1.out.trans HX6.out)⟩
        | some ty =>
          cases ty with
          | bit =>
            have HKD := hid (fun W => (specTypeKids_any want hwz W).mono fun e w' h => lw_kids_post h)
            have HHD := hid (fun W => specTypeHead_any want hwz W)
            rw [hrd] at HKD HHD
            have HKD2 := hid (fun W => (show Calls Tryz.prog 106 #[.string want] W (KdPost [] 0 true W) from HKD.out W))
            have HHD2 := hid (fun W => (show Calls Tryz.prog 107 #[.string want] W fun e w' => e = .returned (.string (({ data := #[98] } : ByteArray))) ∧ Below W.heap.size W w' from HHD.out W))
            clear HKD HHD hrd
            go_wp2_with fail
            go_at_call 106
            refine (HKD2.out _).mono ?_
            rintro e w4 ⟨q4, d4, rfl, hv4, hu4, hb4⟩
            have HR4 := hid (HR3.out.below hb4 HR3.out.lt (Nat.le_refl _))
            have HX4 := hid (HX3.out.trans (Px.below hb4 (Nat.le_refl _)))
            clear hv4 hu4 hb4
            go_wp2_with fail
            go_at_call 107
            refine (HHD2.out _).mono ?_
            rintro e w5 ⟨rfl, hb5⟩
            have hp5 : Px b w4 w5 := Px.below hb5 (Nat.le_refl _)
            have HR5 := hid (HR4.out.below hb5 HR4.out.lt (Nat.le_refl _))
            have HX5 := hid (HX4.out.trans hp5)
            clear hb5 hp5
            have sc0_5 := HX5.out.cell (b := b) (by show w.heap.size ≠ b; omega) SB0.out
            have sc1_5 := HX5.out.cell (b := b) (by show w.heap.size ≠ b; omega) SB1.out
            go_wp2_with fail
            go_at_call 48
            refine (rof_any (HR5.out.alloc _) (by omega) w5.heap.size 2 2 1 bitL (bitL_lit w5) (by omega) (by omega) (by have := HR5.out.lt; omega) bitL_small).mono ?_
            rintro e w6 ⟨s6, rfl, hs6, hr6, hp6⟩
            have HR6 := hid hr6
            have HX6 := hid ((HX5.out.alloc _).trans hp6)
            have HS6 := hid hs6
            clear hr6 hp6 hs6
            go_wp2_with fail
            go_ret
            exact ⟨_, rfl, by have := HS6.out; have := HG0.out; omega, HR6.out.le (by have := HG0.out; omega), HPX.out _ (HX1.out.trans HX6.out)⟩
          | ret x =>
            have HKD := hid (fun W => (specTypeKids_any want hwz W).mono fun e w' h => lw_kids_post h)
            have HHD := hid (fun W => specTypeHead_any want hwz W)
            rw [hrd] at HKD HHD
            have HKD2 := hid (fun W => (show Calls Tryz.prog 106 #[.string want] W (KdPost [x] 1 true W) from HKD.out W))
            have HHD2 := hid (fun W => (show Calls Tryz.prog 107 #[.string want] W fun e w' => e = .returned (.string (({ data := #[102] } : ByteArray))) ∧ Below W.heap.size W w' from HHD.out W))
            clear HKD HHD hrd
            go_wp2_with fail
            go_at_call 106
            refine (HKD2.out _).mono ?_
            rintro e w4 ⟨q4, d4, rfl, hv4, hu4, hb4⟩
            have HR4 := hid (HR3.out.below hb4 HR3.out.lt (Nat.le_refl _))
            have HX4 := hid (HX3.out.trans (Px.below hb4 (Nat.le_refl _)))
            clear hv4 hu4 hb4
            go_wp2_with fail
            go_at_call 107
            refine (HHD2.out _).mono ?_
            rintro e w5 ⟨rfl, hb5⟩
            have hp5 : Px b w4 w5 := Px.below hb5 (Nat.le_refl _)
            have HR5 := hid (HR4.out.below hb5 HR4.out.lt (Nat.le_refl _))
            have HX5 := hid (HX4.out.trans hp5)
            clear hb5 hp5
            have sc0_5 := HX5.out.cell (b := b) (by show w.heap.size ≠ b; omega) SB0.out
            have sc1_5 := HX5.out.cell (b := b) (by show w.heap.size ≠ b; omega) SB1.out
            go_wp2_with fail
            go_at_call 48
            refine (rof_any (HR5.out.alloc _) (by omega) w5.heap.size 2 2 1 bitL (bitL_lit w5) (by omega) (by omega) (by have := HR5.out.lt; omega) bitL_small).mono ?_
            rintro e w6 ⟨s6, rfl, hs6, hr6, hp6⟩
            have HR6 := hid hr6
            have HX6 := hid ((HX5.out.alloc _).trans hp6)
            have HS6 := hid hs6
            clear hr6 hp6 hs6
            go_wp2_with fail
            go_ret
            exact ⟨_, rfl, by have := HS6.out; have := HG0.out; omega, HR6.out.le (by have := HG0.out; omega), HPX.out _ (HX1.out.trans HX6.out)⟩
          | fn x y =>
            have HKD := hid (fun W => (specTypeKids_any want hwz W).mono fun e w' h => lw_kids_post h)
            have HHD := hid (fun W => specTypeHead_any want hwz W)
            rw [hrd] at HKD HHD
            have HKD2 := hid (fun W => (show Calls Tryz.prog 106 #[.string want] W (KdPost [x, y] 2 true W) from HKD.out W))
            have HHD2 := hid (fun W => (show Calls Tryz.prog 107 #[.string want] W fun e w' => e = .returned (.string (({ data := #[62] } : ByteArray))) ∧ Below W.heap.size W w' from HHD.out W))
            clear HKD HHD hrd
            go_wp2_with fail
            go_at_call 106
            refine (HKD2.out _).mono ?_
            rintro e w4 ⟨q4, d4, rfl, hv4, hu4, hb4⟩
            have HR4 := hid (HR3.out.below hb4 HR3.out.lt (Nat.le_refl _))
            have HX4 := hid (HX3.out.trans (Px.below hb4 (Nat.le_refl _)))
            clear hv4 hu4 hb4
            go_wp2_with fail
            go_at_call 107
            refine (HHD2.out _).mono ?_
            rintro e w5 ⟨rfl, hb5⟩
            have hp5 : Px b w4 w5 := Px.below hb5 (Nat.le_refl _)
            have HR5 := hid (HR4.out.below hb5 HR4.out.lt (Nat.le_refl _))
            have HX5 := hid (HX4.out.trans hp5)
            clear hb5 hp5
            have sc0_5 := HX5.out.cell (b := b) (by show w.heap.size ≠ b; omega) SB0.out
            have sc1_5 := HX5.out.cell (b := b) (by show w.heap.size ≠ b; omega) SB1.out
            go_wp2_with fail
            go_at_call 48
            refine (rof_any (HR5.out.alloc _) (by omega) w5.heap.size 2 2 1 bitL (bitL_lit w5) (by omega) (by omega) (by have := HR5.out.lt; omega) bitL_small).mono ?_
            rintro e w6 ⟨s6, rfl, hs6, hr6, hp6⟩
            have HR6 := hid hr6
            have HX6 := hid ((HX5.out.alloc _).trans hp6)
            have HS6 := hid hs6
            clear hr6 hp6 hs6
            go_wp2_with fail
            go_ret
            exact ⟨_, rfl, by have := HS6.out; have := HG0.out; omega, HR6.out.le (by have := HG0.out; omega), HPX.out _ (HX1.out.trans HX6.out)⟩
          | choice x y =>
            have HKD := hid (fun W => (specTypeKids_any want hwz W).mono fun e w' h => lw_kids_post h)
            have HHD := hid (fun W => specTypeHead_any want hwz W)
            rw [hrd] at HKD HHD
            have HKD2 := hid (fun W => (show Calls Tryz.prog 106 #[.string want] W (KdPost [x, y] 2 true W) from HKD.out W))
            have HHD2 := hid (fun W => (show Calls Tryz.prog 107 #[.string want] W fun e w' => e = .returned (.string (({ data := #[38] } : ByteArray))) ∧ Below W.heap.size W w' from HHD.out W))
            clear HKD HHD hrd
            go_wp2_with fail
            go_at_call 106
            refine (HKD2.out _).mono ?_
            rintro e w4 ⟨q4, d4, rfl, hv4, hu4, hb4⟩
            have HR4 := hid (HR3.out.below hb4 HR3.out.lt (Nat.le_refl _))
            have HX4 := hid (HX3.out.trans (Px.below hb4 (Nat.le_refl _)))
            clear hv4 hu4 hb4
            go_wp2_with fail
            go_at_call 107
            refine (HHD2.out _).mono ?_
            rintro e w5 ⟨rfl, hb5⟩
            have hp5 : Px b w4 w5 := Px.below hb5 (Nat.le_refl _)
            have HR5 := hid (HR4.out.below hb5 HR4.out.lt (Nat.le_refl _))
            have HX5 := hid (HX4.out.trans hp5)
            clear hb5 hp5
            have sc0_5 := HX5.out.cell (b := b) (by show w.heap.size ≠ b; omega) SB0.out
            have sc1_5 := HX5.out.cell (b := b) (by show w.heap.size ≠ b; omega) SB1.out
            go_wp2_with fail
            go_at_call 48
            refine (rof_any (HR5.out.alloc _) (by omega) w5.heap.size 2 2 1 bitL (bitL_lit w5) (by omega) (by omega) (by have := HR5.out.lt; omega) bitL_small).mono ?_
            rintro e w6 ⟨s6, rfl, hs6, hr6, hp6⟩
            have HR6 := hid hr6
            have HX6 := hid ((HX5.out.alloc _).trans hp6)
            have HS6 := hid hs6
            clear hr6 hp6 hs6
            go_wp2_with fail
            go_ret
            exact ⟨_, rfl, by have := HS6.out; have := HG0.out; omega, HR6.out.le (by have := HG0.out; omega), HPX.out _ (HX1.out.trans HX6.out)⟩
          | pair x y =>
            have HXY := hid (HVH.out x y hrd)
            have hgg := HGP.out x.text.size y.text.size want.size (by rw [lw_text hrd, tx_pair]; omega)
            rw [HGE.out] at hgg
            have HKD := hid (fun W => (specTypeKids_any want hwz W).mono fun e w' h => lw_kids_post h)
            have HHD := hid (fun W => specTypeHead_any want hwz W)
            rw [hrd] at HKD HHD
            have HKD2 := hid (fun W => (show Calls Tryz.prog 106 #[.string want] W (KdPost [x, y] 2 true W) from HKD.out W))
            have HHD2 := hid (fun W => (show Calls Tryz.prog 107 #[.string want] W fun e w' => e = .returned (.string (({ data := #[42] } : ByteArray))) ∧ Below W.heap.size W w' from HHD.out W))
            clear HKD HHD hrd
            go_wp2_with fail
            go_at_call 106
            refine (HKD2.out _).mono ?_
            rintro e w4 ⟨q4, d4, rfl, hv4, hu4, hb4⟩
            obtain ⟨g0, o0, hbo, hc0_4⟩ := hv4 0 (.string x.text) rfl
            subst hbo
            have hc0_4 : w4.cell? ⟨g0, o0, none⟩ = some (.string x.text) := hc0_4
            obtain ⟨g1, o1, hbo1, hc1_4⟩ := hv4 1 (.string y.text) rfl
            obtain ⟨rfl, rfl⟩ : g0 = g1 ∧ o0 = o1 := by simpa using hbo1
            clear hbo1
            have HR4 := hid (HR3.out.below hb4 HR3.out.lt (Nat.le_refl _))
            have HX4 := hid (HX3.out.trans (Px.below hb4 (Nat.le_refl _)))
            clear hv4 hu4 hb4
            go_wp2_with fail
            go_at_call 107
            refine (HHD2.out _).mono ?_
            rintro e w5 ⟨rfl, hb5⟩
            have hp5 : Px b w4 w5 := Px.below hb5 (Nat.le_refl _)
            have hc0_5 := hp5.cell (rd_ne1 HR4.out hc0_4) hc0_4
            have hc1_5 := hp5.cell (rd_ne1 HR4.out hc1_4) hc1_4
            have HR5 := hid (HR4.out.below hb5 HR4.out.lt (Nat.le_refl _))
            have HX5 := hid (HX4.out.trans hp5)
            clear hb5 hp5
            have sc0_5 := HX5.out.cell (b := b) (by show w.heap.size ≠ b; omega) SB0.out
            have sc1_5 := HX5.out.cell (b := b) (by show w.heap.size ≠ b; omega) SB1.out
            have HB5 := hid (show PtW w5 w.heap.size p q i c e g0 o0 x.text y.text from ⟨sc0_5, sc1_5, hc0_5, hc1_5⟩)
            have HNE := hid (show w.heap.size ≠ b by omega)
            have HB5d := hid (HB5.out.px HR5.out HNE.out (px_drew b w5))
            have HR5d := hid HR5.out.drew
            have HX5d := hid (HX5.out.trans (px_drew b w5))
            have HC1 := hid (fun W r' (hr : Rd W b r') (hx : Px b wr W) (hl : r' + g x.text.size ≤ 400000000) (hb : PtW W w.heap.size p q i c e g0 o0 x.text y.text) => (HXY.out.1 r' W p q i c e ns ts (d : Int) (HSC.out W hx) hr hl hn6 rfl).mono fun en w' h => (show DrawnK b (r' + g x.text.size) (g x.text.size) W w.heap.size p q i c e g0 o0 x.text y.text en w' from h.keep hb hr HNE.out))
            have HC2 := hid (fun W r' (hr : Rd W b r') (hx : Px b wr W) (hl : r' + g y.text.size ≤ 400000000) (hb : PtW W w.heap.size p q i c e g0 o0 x.text y.text) => (HXY.out.2 r' W p q i c e ns ts (d : Int) (HSC.out W hx) hr hl hn6 rfl).mono fun en w' h => (show DrawnK b (r' + g y.text.size) (g y.text.size) W w.heap.size p q i c e g0 o0 x.text y.text en w' from h.keep hb hr HNE.out))
            obtain ⟨GX, hGX⟩ : ∃ GX, g x.text.size = GX := ⟨_, rfl⟩
            obtain ⟨GY, hGY⟩ : ∃ GY, g y.text.size = GY := ⟨_, rfl⟩
            rw [hGX] at HC1 hgg
            rw [hGY] at HC2 hgg
            clear hGX hGY
            go_wp2_with fail
            go_region_held3 (fun w' => w'.cell? ⟨w.heap.size, 0, none⟩ = some (.slice p i c) ∧ w'.cell? ⟨w.heap.size, 1, none⟩ = some (.slice q i e) ∧ w'.cell? ⟨g0, o0, none⟩ = some (.string x.text) ∧ w'.cell? ⟨g0, o0 + 1, none⟩ = some (.string y.text))
              (first | exact ⟨HB5d.out.c0, HB5d.out.c1, HB5d.out.k0, HB5d.out.k1⟩ | exact ⟨HB6.out.c0, HB6.out.c1, HB6.out.k0, HB6.out.k1⟩ | exact ⟨HB7.out.c0, HB7.out.c1, HB7.out.k0, HB7.out.k1⟩)
              (first
                | (have _ := HR6
                   go_at_call 93
                   refine (HC2.out _ _ HR6.out HX6.out (by omega) HB6.out).mono ?_
                   rintro e w7 ⟨s7, rfl, hs7, hr7, hp7, hb7⟩
                   have hz7 : s7.size ≤ 400000000 := by omega
                   have ta7 : ¬ 9223372036854775807 < 6 + s6.size + 1 + s7.size := by omega
                   have tb7 : ¬ 9223372036854775807 < 6 + s6.size + 1 + s7.size + 1 := by omega
                   have HR7 := hid hr7
                   have HX7 := hid (HX6.out.trans hp7)
                   have HS7 := hid hs7
                   have HB7 := hid hb7
                   clear hr7 hp7 hs7 hb7)
                | (go_at_call 93
                   refine (HC1.out _ _ HR5d.out HX5d.out (by omega) HB5d.out).mono ?_
                   rintro e w6 ⟨s6, rfl, hs6, hr6, hp6, hb6⟩
                   have hz6 : s6.size ≤ 400000000 := by omega
                   have ta6 : ¬ 9223372036854775807 < 6 + s6.size := by omega
                   have tb6 : ¬ 9223372036854775807 < 6 + s6.size + 1 := by omega
                   have HR6 := hid hr6
                   have HX6 := hid (HX5d.out.trans hp6)
                   have HS6 := hid hs6
                   have HB6 := hid hb6
                   clear hr6 hp6 hs6 hb6))
            all_goals
              go_wp2_with fail
              go_ret
              refine ⟨_, rfl, ?_, HR7.out.le (by omega), HPX.out _ (HX1.out.trans HX7.out)⟩
              have := HS6.out
              have := HS7.out
              simp only [ByteArray.size_append, bsz]; simp; omega
          | thunk x =>
            have HXT := hid (HMH.out x hrd)
            have hgg := HGU.out x.text.size want.size (by rw [lw_text hrd, tx_thunk]; omega)
            rw [HGE.out] at hgg
            have HKD := hid (fun W => (specTypeKids_any want hwz W).mono fun e w' h => lw_kids_post h)
            have HHD := hid (fun W => specTypeHead_any want hwz W)
            rw [hrd] at HKD HHD
            have HKD2 := hid (fun W => (show Calls Tryz.prog 106 #[.string want] W (KdPost [x] 1 true W) from HKD.out W))
            have HHD2 := hid (fun W => (show Calls Tryz.prog 107 #[.string want] W fun e w' => e = .returned (.string (({ data := #[117] } : ByteArray))) ∧ Below W.heap.size W w' from HHD.out W))
            clear HKD HHD hrd
            go_wp2_with fail
            go_at_call 106
            refine (HKD2.out _).mono ?_
            rintro e w4 ⟨q4, d4, rfl, hv4, hu4, hb4⟩
            obtain ⟨g0, o0, hbo, hc0_4⟩ := hv4 0 (.string x.text) rfl
            subst hbo
            have hc0_4 : w4.cell? ⟨g0, o0, none⟩ = some (.string x.text) := hc0_4
            have HR4 := hid (HR3.out.below hb4 HR3.out.lt (Nat.le_refl _))
            have HX4 := hid (HX3.out.trans (Px.below hb4 (Nat.le_refl _)))
            clear hv4 hu4 hb4
            go_wp2_with fail
            go_at_call 107
            refine (HHD2.out _).mono ?_
            rintro e w5 ⟨rfl, hb5⟩
            have hp5 : Px b w4 w5 := Px.below hb5 (Nat.le_refl _)
            have hc0_5 := hp5.cell (rd_ne1 HR4.out hc0_4) hc0_4
            have HR5 := hid (HR4.out.below hb5 HR4.out.lt (Nat.le_refl _))
            have HX5 := hid (HX4.out.trans hp5)
            clear hb5 hp5
            have sc0_5 := HX5.out.cell (b := b) (by show w.heap.size ≠ b; omega) SB0.out
            have sc1_5 := HX5.out.cell (b := b) (by show w.heap.size ≠ b; omega) SB1.out
            have HNE := hid (show w.heap.size ≠ b by omega)
            have d50 := (px_drew b w5).cell HNE.out sc0_5
            have d51 := (px_drew b w5).cell HNE.out sc1_5
            have d52 := (px_drew b w5).cell (rd_ne1 HR5.out hc0_5) hc0_5
            have HKC := hid (And.intro d50 (And.intro d51 d52))
            have HR5d := hid HR5.out.drew
            have HX5d := hid (HX5.out.trans (px_drew b w5))
            have HC1 := hid (fun W r' (hr : Rd W b r') (hx : Px b wr W) (hl : r' + f x.text.size ≤ 400000000) (hb : W.cell? ⟨w.heap.size, 0, none⟩ = some (.slice p i c) ∧ W.cell? ⟨w.heap.size, 1, none⟩ = some (.slice q i e) ∧ W.cell? ⟨g0, o0, none⟩ = some (.string x.text)) => (HXT.out r' W p q i c e ns ts (d : Int) (HSC.out W hx) hr hl hn6 rfl).mono fun en w' h => (show (∃ s : ByteArray, en = .returned (.string s) ∧ s.size ≤ f x.text.size ∧ Rd w' b (r' + f x.text.size) ∧ Px b W w' ∧ (w'.cell? ⟨w.heap.size, 0, none⟩ = some (.slice p i c) ∧ w'.cell? ⟨w.heap.size, 1, none⟩ = some (.slice q i e) ∧ w'.cell? ⟨g0, o0, none⟩ = some (.string x.text))) from by
              obtain ⟨s, he, hs, hr', hp⟩ := h
              exact ⟨s, he, hs, hr', hp, hp.cell HNE.out hb.1, hp.cell HNE.out hb.2.1, hp.cell (rd_ne1 hr hb.2.2) hb.2.2⟩))
            obtain ⟨GX, hGX⟩ : ∃ GX, f x.text.size = GX := ⟨_, rfl⟩
            rw [hGX] at HC1 hgg
            clear hGX d50 d51 d52
            go_wp2_with fail
            go_region_held3 (fun w' => w'.cell? ⟨w.heap.size, 0, none⟩ = some (.slice p i c) ∧ w'.cell? ⟨w.heap.size, 1, none⟩ = some (.slice q i e) ∧ w'.cell? ⟨g0, o0, none⟩ = some (.string x.text))
              (first | exact HKC.out | exact HK6.out)
              (first
                | (go_at_call 83
                   refine (HC1.out _ _ HR5d.out HX5d.out (by omega) HKC.out).mono ?_
                   rintro e w6 ⟨s6, rfl, hs6, hr6, hp6, hk6⟩
                   have hz6 : s6.size ≤ 400000000 := by omega
                   have ta6 : ¬ 9223372036854775807 < 7 + s6.size := by omega
                   have tb6 : ¬ 9223372036854775807 < 7 + s6.size + 1 := by omega
                   have HR6 := hid hr6
                   have HX6 := hid (HX5d.out.trans hp6)
                   have HS6 := hid hs6
                   have HK6 := hid hk6
                   clear hr6 hp6 hs6 hk6))
            all_goals
              go_wp2_with fail
              go_ret
              refine ⟨_, rfl, ?_, HR6.out.le (by omega), HPX.out _ (HX1.out.trans HX6.out)⟩
              have := HS6.out
              simp only [ByteArray.size_append, bsz]; simp; omega
      · have hm1 : (0 : Int) < (m : Int) := by omega
        have hm2 : m ≤ 20 := by omega
        go_wp2_with fail
        go_at_call 47
        refine (pick_any HR1.out (by omega) 3 (by omega)).mono ?_
        rintro e w3 ⟨x3, rfl, hx3a, hx3b, _, hr3, hp3⟩
        have hx3c : x3 < 3 := hx3b (by decide)
        by_cases hx0 : x3 = 0
        · subst hx0
          have HR3 := hid hr3
          have HX3 := hid hp3
          clear hr3 hp3 hx3b
          cases hrd : readTy want with
          | none =>
            have HKD := hid (fun W => (specTypeKids_any want hwz W).mono fun e w' h => lw_kids_post h)
            have HHD := hid (fun W => specTypeHead_any want hwz W)
            rw [hrd] at HKD HHD
            have HKD2 := hid (fun W => (show Calls Tryz.prog 106 #[.string want] W (KdPost [] 0 false W) from HKD.out W))
            have HHD2 := hid (fun W => (show Calls Tryz.prog 107 #[.string want] W fun e w' => e = .returned (.string (ByteArray.empty)) ∧ Below W.heap.size W w' from HHD.out W))
            clear HKD HHD hrd
            go_wp2_with fail
            go_at_call 106
            refine (HKD2.out _).mono ?_
            rintro e w4 ⟨q4, d4, rfl, hv4, hu4, hb4⟩
            have HR4 := hid (HR3.out.below hb4 HR3.out.lt (Nat.le_refl _))
            have HX4 := hid (HX3.out.trans (Px.below hb4 (Nat.le_refl _)))
            clear hv4 hu4 hb4
            go_wp2_with fail
            go_at_call 107
            refine (HHD2.out _).mono ?_
            rintro e w5 ⟨rfl, hb5⟩
            have hp5 : Px b w4 w5 := Px.below hb5 (Nat.le_refl _)
            have HR5 := hid (HR4.out.below hb5 HR4.out.lt (Nat.le_refl _))
            have HX5 := hid (HX4.out.trans hp5)
            clear hb5 hp5
            have sc0_5 := HX5.out.cell (b := b) (by show w.heap.size ≠ b; omega) SB0.out
            have sc1_5 := HX5.out.cell (b := b) (by show w.heap.size ≠ b; omega) SB1.out
            go_wp2_with fail
            go_at_call 48
            refine (rof_any (HR5.out.alloc _) (by omega) w5.heap.size 2 2 1 bitL (bitL_lit w5) (by omega) (by omega) (by have := HR5.out.lt; omega) bitL_small).mono ?_
            rintro e w6 ⟨s6, rfl, hs6, hr6, hp6⟩
            have HR6 := hid hr6
            have HX6 := hid ((HX5.out.alloc _).trans hp6)
            have HS6 := hid hs6
            clear hr6 hp6 hs6
            go_wp2_with fail
            go_ret
            exact ⟨_, rfl, by have := HS6.out; have := HG0.out; omega, HR6.out.le (by have := HG0.out; omega), HPX.out _ (HX1.out.trans HX6.out)⟩
          | some ty =>
            cases ty with
            | bit =>
              have HKD := hid (fun W => (specTypeKids_any want hwz W).mono fun e w' h => lw_kids_post h)
              have HHD := hid (fun W => specTypeHead_any want hwz W)
              rw [hrd] at HKD HHD
              have HKD2 := hid (fun W => (show Calls Tryz.prog 106 #[.string want] W (KdPost [] 0 true W) from HKD.out W))
              have HHD2 := hid (fun W => (show Calls Tryz.prog 107 #[.string want] W fun e w' => e = .returned (.string (({ data := #[98] } : ByteArray))) ∧ Below W.heap.size W w' from HHD.out W))
              clear HKD HHD hrd
              go_wp2_with fail
              go_at_call 106
              refine (HKD2.out _).mono ?_
              rintro e w4 ⟨q4, d4, rfl, hv4, hu4, hb4⟩
              have HR4 := hid (HR3.out.below hb4 HR3.out.lt (Nat.le_refl _))
              have HX4 := hid (HX3.out.trans (Px.below hb4 (Nat.le_refl _)))
              clear hv4 hu4 hb4
              go_wp2_with fail
              go_at_call 107
              refine (HHD2.out _).mono ?_
              rintro e w5 ⟨rfl, hb5⟩
              have hp5 : Px b w4 w5 := Px.below hb5 (Nat.le_refl _)
              have HR5 := hid (HR4.out.below hb5 HR4.out.lt (Nat.le_refl _))
              have HX5 := hid (HX4.out.trans hp5)
              clear hb5 hp5
              have sc0_5 := HX5.out.cell (b := b) (by show w.heap.size ≠ b; omega) SB0.out
              have sc1_5 := HX5.out.cell (b := b) (by show w.heap.size ≠ b; omega) SB1.out
              go_wp2_with fail
              go_at_call 48
              refine (rof_any (HR5.out.alloc _) (by omega) w5.heap.size 2 2 1 bitL (bitL_lit w5) (by omega) (by omega) (by have := HR5.out.lt; omega) bitL_small).mono ?_
              rintro e w6 ⟨s6, rfl, hs6, hr6, hp6⟩
              have HR6 := hid hr6
              have HX6 := hid ((HX5.out.alloc _).trans hp6)
              have HS6 := hid hs6
              clear hr6 hp6 hs6
              go_wp2_with fail
              go_ret
              exact ⟨_, rfl, by have := HS6.out; have := HG0.out; omega, HR6.out.le (by have := HG0.out; omega), HPX.out _ (HX1.out.trans HX6.out)⟩
            | ret x =>
              have HKD := hid (fun W => (specTypeKids_any want hwz W).mono fun e w' h => lw_kids_post h)
              have HHD := hid (fun W => specTypeHead_any want hwz W)
              rw [hrd] at HKD HHD
              have HKD2 := hid (fun W => (show Calls Tryz.prog 106 #[.string want] W (KdPost [x] 1 true W) from HKD.out W))
              have HHD2 := hid (fun W => (show Calls Tryz.prog 107 #[.string want] W fun e w' => e = .returned (.string (({ data := #[102] } : ByteArray))) ∧ Below W.heap.size W w' from HHD.out W))
              clear HKD HHD hrd
              go_wp2_with fail
              go_at_call 106
              refine (HKD2.out _).mono ?_
              rintro e w4 ⟨q4, d4, rfl, hv4, hu4, hb4⟩
              have HR4 := hid (HR3.out.below hb4 HR3.out.lt (Nat.le_refl _))
              have HX4 := hid (HX3.out.trans (Px.below hb4 (Nat.le_refl _)))
              clear hv4 hu4 hb4
              go_wp2_with fail
              go_at_call 107
              refine (HHD2.out _).mono ?_
              rintro e w5 ⟨rfl, hb5⟩
              have hp5 : Px b w4 w5 := Px.below hb5 (Nat.le_refl _)
              have HR5 := hid (HR4.out.below hb5 HR4.out.lt (Nat.le_refl _))
              have HX5 := hid (HX4.out.trans hp5)
              clear hb5 hp5
              have sc0_5 := HX5.out.cell (b := b) (by show w.heap.size ≠ b; omega) SB0.out
              have sc1_5 := HX5.out.cell (b := b) (by show w.heap.size ≠ b; omega) SB1.out
              go_wp2_with fail
              go_at_call 48
              refine (rof_any (HR5.out.alloc _) (by omega) w5.heap.size 2 2 1 bitL (bitL_lit w5) (by omega) (by omega) (by have := HR5.out.lt; omega) bitL_small).mono ?_
              rintro e w6 ⟨s6, rfl, hs6, hr6, hp6⟩
              have HR6 := hid hr6
              have HX6 := hid ((HX5.out.alloc _).trans hp6)
              have HS6 := hid hs6
              clear hr6 hp6 hs6
              go_wp2_with fail
              go_ret
              exact ⟨_, rfl, by have := HS6.out; have := HG0.out; omega, HR6.out.le (by have := HG0.out; omega), HPX.out _ (HX1.out.trans HX6.out)⟩
            | fn x y =>
              have HKD := hid (fun W => (specTypeKids_any want hwz W).mono fun e w' h => lw_kids_post h)
              have HHD := hid (fun W => specTypeHead_any want hwz W)
              rw [hrd] at HKD HHD
              have HKD2 := hid (fun W => (show Calls Tryz.prog 106 #[.string want] W (KdPost [x, y] 2 true W) from HKD.out W))
              have HHD2 := hid (fun W => (show Calls Tryz.prog 107 #[.string want] W fun e w' => e = .returned (.string (({ data := #[62] } : ByteArray))) ∧ Below W.heap.size W w' from HHD.out W))
              clear HKD HHD hrd
              go_wp2_with fail
              go_at_call 106
              refine (HKD2.out _).mono ?_
              rintro e w4 ⟨q4, d4, rfl, hv4, hu4, hb4⟩
              have HR4 := hid (HR3.out.below hb4 HR3.out.lt (Nat.le_refl _))
              have HX4 := hid (HX3.out.trans (Px.below hb4 (Nat.le_refl _)))
              clear hv4 hu4 hb4
              go_wp2_with fail
              go_at_call 107
              refine (HHD2.out _).mono ?_
              rintro e w5 ⟨rfl, hb5⟩
              have hp5 : Px b w4 w5 := Px.below hb5 (Nat.le_refl _)
              have HR5 := hid (HR4.out.below hb5 HR4.out.lt (Nat.le_refl _))
              have HX5 := hid (HX4.out.trans hp5)
              clear hb5 hp5
              have sc0_5 := HX5.out.cell (b := b) (by show w.heap.size ≠ b; omega) SB0.out
              have sc1_5 := HX5.out.cell (b := b) (by show w.heap.size ≠ b; omega) SB1.out
              go_wp2_with fail
              go_at_call 48
              refine (rof_any (HR5.out.alloc _) (by omega) w5.heap.size 2 2 1 bitL (bitL_lit w5) (by omega) (by omega) (by have := HR5.out.lt; omega) bitL_small).mono ?_
              rintro e w6 ⟨s6, rfl, hs6, hr6, hp6⟩
              have HR6 := hid hr6
              have HX6 := hid ((HX5.out.alloc _).trans hp6)
              have HS6 := hid hs6
              clear hr6 hp6 hs6
              go_wp2_with fail
              go_ret
              exact ⟨_, rfl, by have := HS6.out; have := HG0.out; omega, HR6.out.le (by have := HG0.out; omega), HPX.out _ (HX1.out.trans HX6.out)⟩
            | choice x y =>
              have HKD := hid (fun W => (specTypeKids_any want hwz W).mono fun e w' h => lw_kids_post h)
              have HHD := hid (fun W => specTypeHead_any want hwz W)
              rw [hrd] at HKD HHD
              have HKD2 := hid (fun W => (show Calls Tryz.prog 106 #[.string want] W (KdPost [x, y] 2 true W) from HKD.out W))
              have HHD2 := hid (fun W => (show Calls Tryz.prog 107 #[.string want] W fun e w' => e = .returned (.string (({ data := #[38] } : ByteArray))) ∧ Below W.heap.size W w' from HHD.out W))
              clear HKD HHD hrd
              go_wp2_with fail
              go_at_call 106
              refine (HKD2.out _).mono ?_
              rintro e w4 ⟨q4, d4, rfl, hv4, hu4, hb4⟩
              have HR4 := hid (HR3.out.below hb4 HR3.out.lt (Nat.le_refl _))
              have HX4 := hid (HX3.out.trans (Px.below hb4 (Nat.le_refl _)))
              clear hv4 hu4 hb4
              go_wp2_with fail
              go_at_call 107
              refine (HHD2.out _).mono ?_
              rintro e w5 ⟨rfl, hb5⟩
              have hp5 : Px b w4 w5 := Px.below hb5 (Nat.le_refl _)
              have HR5 := hid (HR4.out.below hb5 HR4.out.lt (Nat.le_refl _))
              have HX5 := hid (HX4.out.trans hp5)
              clear hb5 hp5
              have sc0_5 := HX5.out.cell (b := b) (by show w.heap.size ≠ b; omega) SB0.out
              have sc1_5 := HX5.out.cell (b := b) (by show w.heap.size ≠ b; omega) SB1.out
              go_wp2_with fail
              go_at_call 48
              refine (rof_any (HR5.out.alloc _) (by omega) w5.heap.size 2 2 1 bitL (bitL_lit w5) (by omega) (by omega) (by have := HR5.out.lt; omega) bitL_small).mono ?_
              rintro e w6 ⟨s6, rfl, hs6, hr6, hp6⟩
              have HR6 := hid hr6
              have HX6 := hid ((HX5.out.alloc _).trans hp6)
              have HS6 := hid hs6
              clear hr6 hp6 hs6
              go_wp2_with fail
              go_ret
              exact ⟨_, rfl, by have := HS6.out; have := HG0.out; omega, HR6.out.le (by have := HG0.out; omega), HPX.out _ (HX1.out.trans HX6.out)⟩
            | pair x y =>
              have HXY := hid (HVH.out x y hrd)
              have hgg := HGP.out x.text.size y.text.size want.size (by rw [lw_text hrd, tx_pair]; omega)
              rw [HGE.out] at hgg
              have HKD := hid (fun W => (specTypeKids_any want hwz W).mono fun e w' h => lw_kids_post h)
              have HHD := hid (fun W => specTypeHead_any want hwz W)
              rw [hrd] at HKD HHD
              have HKD2 := hid (fun W => (show Calls Tryz.prog 106 #[.string want] W (KdPost [x, y] 2 true W) from HKD.out W))
              have HHD2 := hid (fun W => (show Calls Tryz.prog 107 #[.string want] W fun e w' => e = .returned (.string (({ data := #[42] } : ByteArray))) ∧ Below W.heap.size W w' from HHD.out W))
              clear HKD HHD hrd
              go_wp2_with fail
              go_at_call 106
              refine (HKD2.out _).mono ?_
              rintro e w4 ⟨q4, d4, rfl, hv4, hu4, hb4⟩
              obtain ⟨g0, o0, hbo, hc0_4⟩ := hv4 0 (.string x.text) rfl
              subst hbo
              have hc0_4 : w4.cell? ⟨g0, o0, none⟩ = some (.string x.text) := hc0_4
              obtain ⟨g1, o1, hbo1, hc1_4⟩ := hv4 1 (.string y.text) rfl
              obtain ⟨rfl, rfl⟩ : g0 = g1 ∧ o0 = o1 := by simpa using hbo1
              clear hbo1
              have HR4 := hid (HR3.out.below hb4 HR3.out.lt (Nat.le_refl _))
              have HX4 := hid (HX3.out.trans (Px.below hb4 (Nat.le_refl _)))
              clear hv4 hu4 hb4
              go_wp2_with fail
              go_at_call 107
              refine (HHD2.out _).mono ?_
              rintro e w5 ⟨rfl, hb5⟩
              have hp5 : Px b w4 w5 := Px.below hb5 (Nat.le_refl _)
              have hc0_5 := hp5.cell (rd_ne1 HR4.out hc0_4) hc0_4
              have hc1_5 := hp5.cell (rd_ne1 HR4.out hc1_4) hc1_4
              have HR5 := hid (HR4.out.below hb5 HR4.out.lt (Nat.le_refl _))
              have HX5 := hid (HX4.out.trans hp5)
              clear hb5 hp5
              have sc0_5 := HX5.out.cell (b := b) (by show w.heap.size ≠ b; omega) SB0.out
              have sc1_5 := HX5.out.cell (b := b) (by show w.heap.size ≠ b; omega) SB1.out
              have HB5 := hid (show PtW w5 w.heap.size p q i c e g0 o0 x.text y.text from ⟨sc0_5, sc1_5, hc0_5, hc1_5⟩)
              have HNE := hid (show w.heap.size ≠ b by omega)
              have HB5d := hid (HB5.out.px HR5.out HNE.out (px_drew b w5))
              have HR5d := hid HR5.out.drew
              have HX5d := hid (HX5.out.trans (px_drew b w5))
              have HC1 := hid (fun W r' (hr : Rd W b r') (hx : Px b wr W) (hl : r' + g x.text.size ≤ 400000000) (hb : PtW W w.heap.size p q i c e g0 o0 x.text y.text) => (HXY.out.1 r' W p q i c e ns ts (d : Int) (HSC.out W hx) hr hl hn6 rfl).mono fun en w' h => (show DrawnK b (r' + g x.text.size) (g x.text.size) W w.heap.size p q i c e g0 o0 x.text y.text en w' from h.keep hb hr HNE.out))
              have HC2 := hid (fun W r' (hr : Rd W b r') (hx : Px b wr W) (hl : r' + g y.text.size ≤ 400000000) (hb : PtW W w.heap.size p q i c e g0 o0 x.text y.text) => (HXY.out.2 r' W p q i c e ns ts (d : Int) (HSC.out W hx) hr hl hn6 rfl).mono fun en w' h => (show DrawnK b (r' + g y.text.size) (g y.text.size) W w.heap.size p q i c e g0 o0 x.text y.text en w' from h.keep hb hr HNE.out))
              obtain ⟨GX, hGX⟩ : ∃ GX, g x.text.size = GX := ⟨_, rfl⟩
              obtain ⟨GY, hGY⟩ : ∃ GY, g y.text.size = GY := ⟨_, rfl⟩
              rw [hGX] at HC1 hgg
              rw [hGY] at HC2 hgg
              clear hGX hGY
              go_wp2_with fail
              go_region_held3 (fun w' => w'.cell? ⟨w.heap.size, 0, none⟩ = some (.slice p i c) ∧ w'.cell? ⟨w.heap.size, 1, none⟩ = some (.slice q i e) ∧ w'.cell? ⟨g0, o0, none⟩ = some (.string x.text) ∧ w'.cell? ⟨g0, o0 + 1, none⟩ = some (.string y.text))
                (first | exact ⟨HB5d.out.c0, HB5d.out.c1, HB5d.out.k0, HB5d.out.k1⟩ | exact ⟨HB6.out.c0, HB6.out.c1, HB6.out.k0, HB6.out.k1⟩ | exact ⟨HB7.out.c0, HB7.out.c1, HB7.out.k0, HB7.out.k1⟩)
                (first
                  | (have _ := HR6
                     go_at_call 93
                     refine (HC2.out _ _ HR6.out HX6.out (by omega) HB6.out).mono ?_
                     rintro e w7 ⟨s7, rfl, hs7, hr7, hp7, hb7⟩
                     have hz7 : s7.size ≤ 400000000 := by omega
                     have ta7 : ¬ 9223372036854775807 < 6 + s6.size + 1 + s7.size := by omega
                     have tb7 : ¬ 9223372036854775807 < 6 + s6.size + 1 + s7.size + 1 := by omega
                     have HR7 := hid hr7
                     have HX7 := hid (HX6.out.trans hp7)
                     have HS7 := hid hs7
                     have HB7 := hid hb7
                     clear hr7 hp7 hs7 hb7)
                  | (go_at_call 93
                     refine (HC1.out _ _ HR5d.out HX5d.out (by omega) HB5d.out).mono ?_
                     rintro e w6 ⟨s6, rfl, hs6, hr6, hp6, hb6⟩
                     have hz6 : s6.size ≤ 400000000 := by omega
                     have ta6 : ¬ 9223372036854775807 < 6 + s6.size := by omega
                     have tb6 : ¬ 9223372036854775807 < 6 + s6.size + 1 := by omega
                     have HR6 := hid hr6
                     have HX6 := hid (HX5d.out.trans hp6)
                     have HS6 := hid hs6
                     have HB6 := hid hb6
                     clear hr6 hp6 hs6 hb6))
              all_goals
                go_wp2_with fail
                go_ret
                refine ⟨_, rfl, ?_, HR7.out.le (by omega), HPX.out _ (HX1.out.trans HX7.out)⟩
                have := HS6.out
                have := HS7.out
                simp only [ByteArray.size_append, bsz]; simp; omega
            | thunk x =>
              have HXT := hid (HMH.out x hrd)
              have hgg := HGU.out x.text.size want.size (by rw [lw_text hrd, tx_thunk]; omega)
              rw [HGE.out] at hgg
              have HKD := hid (fun W => (specTypeKids_any want hwz W).mono fun e w' h => lw_kids_post h)
              have HHD := hid (fun W => specTypeHead_any want hwz W)
              rw [hrd] at HKD HHD
              have HKD2 := hid (fun W => (show Calls Tryz.prog 106 #[.string want] W (KdPost [x] 1 true W) from HKD.out W))
              have HHD2 := hid (fun W => (show Calls Tryz.prog 107 #[.string want] W fun e w' => e = .returned (.string (({ data := #[117] } : ByteArray))) ∧ Below W.heap.size W w' from HHD.out W))
              clear HKD HHD hrd
              go_wp2_with fail
              go_at_call 106
              refine (HKD2.out _).mono ?_
              rintro e w4 ⟨q4, d4, rfl, hv4, hu4, hb4⟩
              obtain ⟨g0, o0, hbo, hc0_4⟩ := hv4 0 (.string x.text) rfl
              subst hbo
              have hc0_4 : w4.cell? ⟨g0, o0, none⟩ = some (.string x.text) := hc0_4
              have HR4 := hid (HR3.out.below hb4 HR3.out.lt (Nat.le_refl _))
              have HX4 := hid (HX3.out.trans (Px.below hb4 (Nat.le_refl _)))
              clear hv4 hu4 hb4
              go_wp2_with fail
              go_at_call 107
              refine (HHD2.out _).mono ?_
              rintro e w5 ⟨rfl, hb5⟩
              have hp5 : Px b w4 w5 := Px.below hb5 (Nat.le_refl _)
              have hc0_5 := hp5.cell (rd_ne1 HR4.out hc0_4) hc0_4
              have HR5 := hid (HR4.out.below hb5 HR4.out.lt (Nat.le_refl _))
              have HX5 := hid (HX4.out.trans hp5)
              clear hb5 hp5
              have sc0_5 := HX5.out.cell (b := b) (by show w.heap.size ≠ b; omega) SB0.out
              have sc1_5 := HX5.out.cell (b := b) (by show w.heap.size ≠ b; omega) SB1.out
              have HNE := hid (show w.heap.size ≠ b by omega)
              have d50 := (px_drew b w5).cell HNE.out sc0_5
              have d51 := (px_drew b w5).cell HNE.out sc1_5
              have d52 := (px_drew b w5).cell (rd_ne1 HR5.out hc0_5) hc0_5
              have HKC := hid (And.intro d50 (And.intro d51 d52))
              have HR5d := hid HR5.out.drew
              have HX5d := hid (HX5.out.trans (px_drew b w5))
              have HC1 := hid (fun W r' (hr : Rd W b r') (hx : Px b wr W) (hl : r' + f x.text.size ≤ 400000000) (hb : W.cell? ⟨w.heap.size, 0, none⟩ = some (.slice p i c) ∧ W.cell? ⟨w.heap.size, 1, none⟩ = some (.slice q i e) ∧ W.cell? ⟨g0, o0, none⟩ = some (.string x.text)) => (HXT.out r' W p q i c e ns ts (d : Int) (HSC.out W hx) hr hl hn6 rfl).mono fun en w' h => (show (∃ s : ByteArray, en = .returned (.string s) ∧ s.size ≤ f x.text.size ∧ Rd w' b (r' + f x.text.size) ∧ Px b W w' ∧ (w'.cell? ⟨w.heap.size, 0, none⟩ = some (.slice p i c) ∧ w'.cell? ⟨w.heap.size, 1, none⟩ = some (.slice q i e) ∧ w'.cell? ⟨g0, o0, none⟩ = some (.string x.text))) from by
                obtain ⟨s, he, hs, hr', hp⟩ := h
                exact ⟨s, he, hs, hr', hp, hp.cell HNE.out hb.1, hp.cell HNE.out hb.2.1, hp.cell (rd_ne1 hr hb.2.2) hb.2.2⟩))
              obtain ⟨GX, hGX⟩ : ∃ GX, f x.text.size = GX := ⟨_, rfl⟩
              rw [hGX] at HC1 hgg
              clear hGX d50 d51 d52
              go_wp2_with fail
              go_region_held3 (fun w' => w'.cell? ⟨w.heap.size, 0, none⟩ = some (.slice p i c) ∧ w'.cell? ⟨w.heap.size, 1, none⟩ = some (.slice q i e) ∧ w'.cell? ⟨g0, o0, none⟩ = some (.string x.text))
                (first | exact HKC.out | exact HK6.out)
                (first
                  | (go_at_call 83
                     refine (HC1.out _ _ HR5d.out HX5d.out (by omega) HKC.out).mono ?_
                     rintro e w6 ⟨s6, rfl, hs6, hr6, hp6, hk6⟩
                     have hz6 : s6.size ≤ 400000000 := by omega
                     have ta6 : ¬ 9223372036854775807 < 7 + s6.size := by omega
                     have tb6 : ¬ 9223372036854775807 < 7 + s6.size + 1 := by omega
                     have HR6 := hid hr6
                     have HX6 := hid (HX5d.out.trans hp6)
                     have HS6 := hid hs6
                     have HK6 := hid hk6
                     clear hr6 hp6 hs6 hk6))
              all_goals
                go_wp2_with fail
                go_ret
                refine ⟨_, rfl, ?_, HR6.out.le (by omega), HPX.out _ (HX1.out.trans HX6.out)⟩
                have := HS6.out
                simp only [ByteArray.size_append, bsz]; simp; omega
        · have hx1 : 0 < x3 := by omega
          have HR3 := hid hr3
          have HX3 := hid hp3
          clear hr3 hp3 hx3b
          go_wp2_with fail
          go_at_call 47
          refine (pick_any HR3.out (by omega) (m : Int) (by omega)).mono ?_
          rintro e w4 ⟨x4, rfl, hx4a, hx4b, _, hr4, hp4⟩
          have hx4c : x4 < (m : Int) := hx4b (by omega)
          obtain ⟨a, rfl⟩ := Int.eq_ofNat_of_zero_le hx4a
          obtain ⟨s, hs⟩ : ∃ s, fl[a]? = some s := ⟨_, List.getElem?_eq_getElem (by rw [hfl]; omega)⟩
          obtain ⟨g5, o5, hbo5, hc5⟩ := HFV.out a (.string s) (by rw [List.getElem?_map, hs]; rfl)
          subst hbo5
          have hne : (⟨g5, o5 + a, none⟩ : Addr).block ≠ b := rd_ne1 HR1.out hc5
          have hc5b := hp4.cell hne (HX3.out.cell hne hc5)
          have hs60 := hsm.out s (List.mem_of_getElem? hs)
          have HR4 := hid hr4
          have HX4 := hid (HX1.out.trans (HX3.out.trans hp4))
          clear hr4 hp4 hx4b hc5 hs
          go_wp2_with fail
          go_ret
          exact ⟨_, rfl, by have := HG0.out; omega, HR4.out.le (by have := HG0.out; omega), HPX.out _ HX4.out⟩
theorem l91V_any {b d : Nat} {want : ByteArray} (hS : mV d want.size ≤ 400000000)
    (hM : ∀ k : Ty, readTy want = some (.thunk k) → TermDraw 83 b d k.text (mC d k.text.size))
    (hV : ∀ x y : Ty, readTy want = some (.pair x y) → TermDraw 93 b d x.text (mV d x.text.size) ∧ TermDraw 93 b d y.text (mV d y.text.size)) :
    TermDraw 93 b d want (mV d want.size) :=
  l91V_gen (g := mV d) (f := mC d) (fun n => by rw [mV_eq]; omega) (mV_pair d) (mV_thunk d) hS hM hV
end Go.Proofs.YthpcmglnooemaaaGreatDoor
