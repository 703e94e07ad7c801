/- Merged: StW. -/
import Derived.Test.YtapimaabijgaiaaDoorST19
import Derived.Test.YtapimaabijgaiaaDoorST11
namespace Go.Proofs.YtapimaabijgaiaaDoor
open Go.RowKit

set_option maxRecDepth 100000 in
set_option maxHeartbeats 4000000 in
theorem ty7_lam {w0 : World} {b cap : Nat} {A : Nat → Hd} {x : ByteArray} {s : STy} {m : Sx} {S : Nat → Prop} (hcap : 4 ≤ cap ∧ cap ≤ maxLen) (hs : s.n ≤ 12) (hh : (A 0).a.toList = [108, 97, 109]) (hx : (A 1).a = x)
    (hA : ∀ i, i < 4 → w0.cell? ⟨b, i * 2, none⟩ = some (.string (A i).a)) (hB : ∀ i, i < 4 → w0.cell? ⟨b, i * 2 + 1, none⟩ = some (.slice (A i).p (A i).l (A i).c)) (ht : TIn w0 S s.tree (A 2)) (ih : Ty7 w0 m (A 3)) : Ty7 w0 (.lam x s m) ⟨ByteArray.empty, some ⟨b, 0, none⟩, 4, cap⟩ := by
  intro env np tp n nc tc w hk hw hn hnw hen hs1 hs2
  have hmc : cap ≤ 9223372036854775807 := by have := hcap.2; unfold maxLen at this; omega
  have hcap4 : 4 ≤ cap := hcap.1
  have l1 := tree_len s
  have l2 := tree_wt s
  have hwt : (Sx.lam x s m).tree.wt ≥ 1 + m.tree.wt := by simp only [Sx.tree, Tree.wt, Tree.wts]; omega
  have HT := hid (fun W hk hs => l1Text_any ht (by omega) (by omega) W hk hs)
  have CF := hid (fun W (hb : Below (w.heap.size + 1) (w.alloc (.cells #[.string ByteArray.empty, .slice (some ⟨b, 0, none⟩) 4 cap] 33)) W) => (show (W.cell? ⟨w.heap.size, 0, none⟩ = some (.string ByteArray.empty) ∧ W.cell? ⟨w.heap.size, 1, none⟩ = some (.slice (some ⟨b, 0, none⟩) 4 cap)) ∧ Hid (Kept w0 W ∧ Kept w W) ∧ (W.cell? ⟨b, 0, none⟩ = some (.string (A 0).a) ∧ W.cell? ⟨b, 2, none⟩ = some (.string x)) ∧ (W.cell? ⟨b, 4, none⟩ = some (.string (A 2).a) ∧ W.cell? ⟨b, 5, none⟩ = some (.slice (A 2).p (A 2).l (A 2).c)) ∧ W.cell? ⟨b, 6, none⟩ = some (.string (A 3).a) ∧ W.cell? ⟨b, 7, none⟩ = some (.slice (A 3).p (A 3).l (A 3).c) from by
    have c := cells_of_pair (block_below (heap_new w (.cells #[.string ByteArray.empty, .slice (some ⟨b, 0, none⟩) 4 cap] 33) w.heap.size rfl) hb (by simp))
    have k1 : Kept w0 W := (hk.alloc hw _).below hb (by omega)
    have k2 : Kept w W := ((Kept.refl w).alloc (Nat.le_refl _) _).below hb (by omega)
    have a1 := k1.cell (hA 1 (by omega))
    rw [hx] at a1
    exact ⟨⟨c.1, c.2.1⟩, hid ⟨k1, k2⟩, ⟨k1.cell (by simpa using hA 0 (by omega)), a1⟩, ⟨k1.cell (hA 2 (by omega)), k1.cell (hB 2 (by omega))⟩, k1.cell (hA 3 (by omega)), k1.cell (hB 3 (by omega))⟩))
  obtain ⟨⟨z0, z1⟩, hz2, ⟨z3, z4⟩, ⟨z5, z6⟩, z7, z8⟩ := CF.out _ (Below.refl _ _)
  have t0 : ((A 0).a.toList == [103, 101, 116]) = false := by rw [hh]; rfl
  have t1 : ((A 0).a.toList == [102, 97, 105, 108]) = false := by rw [hh]; rfl
  have t2 : ((A 0).a.toList == [108, 97, 109]) = true := by rw [hh]; rfl
  have hbx := hid hn
  have HWN := hid (fun (p1 p2 : Option Addr) c1 c2 W (hv1 : SV W p1 n c1 (nsOf env)) (hv2 : SV W p2 1 c2 [x]) => l2With_any (nsOf env) [x] p1 p2 n 1 c1 c2 W hv1 hv2 (by omega) (by omega))
  have HWS := hid (fun (p1 p2 : Option Addr) c1 c2 W (hv1 : SV W p1 n c1 (tsOf env)) (hv2 : SV W p2 1 c2 [s.tree.txt]) => l2With_any (tsOf env) [s.tree.txt] p1 p2 n 1 c1 c2 W hv1 hv2 (by omega) (by omega))
  have HLN := hid (show (nsOf env ++ [x]).length = n + 1 by simp [nsOf_len, hn])
  have HLT := hid (show (tsOf env ++ [s.tree.txt]).length = n + 1 by simp [tsOf_len, hn])
  have HIH := hid (fun (W : World) (hkW : Kept w0 W) (hwW : w0.heap.size ≤ W.heap.size) (q1 q2 : Option Addr) c1 c2 (hv1 : SV W q1 (n + 1) c1 (nsOf env ++ [x])) (hv2 : SV W q2 (n + 1) c2 (tsOf env ++ [s.tree.txt])) =>
    ih ((x, s) :: env) q1 q2 (n + 1) c1 c2 W hkW hwW (by simp [hn]) (by omega) (fun y hy => by rcases List.mem_cons.1 hy with rfl | hy; exact hs; exact hen y hy) (by rw [nsOf_cons]; exact hv1) (by rw [tsOf_cons]; exact hv2))
  have HS1 := hid hs1
  have HS2 := hid hs2
  have HTY := hid (show (Sx.lam x s m).typ env = match m.typ ((x, s) :: env) with | some t => lim12 (some (.fn s t)) | none => none from rfl)
  have hmk := fun t (h : m.typ ((x, s) :: env) = some t) W => l7Make_fn s t hs (typ_n h) W
  have hnp := txt7_none (m.typ ((x, s) :: env))
  obtain ⟨R, hR⟩ : ∃ R, (Sx.lam x s m).typ env = R := ⟨_, rfl⟩
  rw [hR] at HTY ⊢
  obtain ⟨K, hK⟩ : ∃ K, m.typ ((x, s) :: env) = K := ⟨_, rfl⟩
  rw [hK] at HTY HIH hmk hnp
  obtain ⟨X, hX⟩ : ∃ X, s.tree.txt = X := ⟨_, rfl⟩
  rw [hX] at HT HWS HLT HIH hmk
  obtain ⟨Z, hZ⟩ : ∃ Z, txt7 R = Z := ⟨_, rfl⟩
  rw [hZ]
  have HZ := hid hZ
  clear hZ hX hK hR hh hx hk hA hB ht hcap ih hs1 hs2 hen hn hs l1 l2 hwt hnw
  have SF := hid (fun W (hb : Below (w.heap.size + 1) (w.alloc (.cells #[.string ByteArray.empty, .slice (some ⟨b, 0, none⟩) 4 cap] 33)) W) => (show W.cell? ⟨w.heap.size, 0, none⟩ = some (.string ByteArray.empty) ∧ W.cell? ⟨w.heap.size, 1, none⟩ = some (.slice (some ⟨b, 0, none⟩) 4 cap) ∧ W.cell? ⟨b, 2, none⟩ = some (.string x) ∧ W.cell? ⟨b, 6, none⟩ = some (.string (A 3).a) ∧ W.cell? ⟨b, 7, none⟩ = some (.slice (A 3).p (A 3).l (A 3).c) from let c := CF.out W hb; ⟨c.1.1, c.1.2, c.2.2.1.2, c.2.2.2.2.1, c.2.2.2.2.2⟩))
  have HSN0 := hid (fun W (hb : Below (w.heap.size + 1) (w.alloc (.cells #[.string ByteArray.empty, .slice (some ⟨b, 0, none⟩) 4 cap] 33)) W) => (HS1.out.kept (CF.out W hb).2.1.out.2 : SV W np n nc (nsOf env)))
  have HST0 := hid (fun W (hb : Below (w.heap.size + 1) (w.alloc (.cells #[.string ByteArray.empty, .slice (some ⟨b, 0, none⟩) 4 cap] 33)) W) => (HS2.out.kept (CF.out W hb).2.1.out.2 : SV W tp n tc (tsOf env)))
  cases K with
  | none =>
    have HZE := hid (show Z = ByteArray.empty by rw [← HZ.out, HTY.out]; rfl)
    have HKE := hnp
    obtain ⟨V, hV⟩ : ∃ V, txt7 none = V := ⟨_, rfl⟩
    rw [hV] at HIH HKE
    have HKE2 : (V.toList == []) = true := HKE
    clear hV hnp hmk HTY HZ HKE
    go_enter Tryd.func11, Tryd.ntmps11
    go_wp2_with (go_at_call 22; refine (HT.out _ hz2.out.1 (by simp; omega)).mono ?_; rintro e w2 ⟨rfl, hb2⟩; have hbq : Below (w.heap.size + 1) (w.alloc (.cells #[.string ByteArray.empty, .slice (some ⟨b, 0, none⟩) 4 cap] 33)) w2 := (by simpa using hb2); obtain ⟨⟨y0, y1⟩, hy2, ⟨y3, y4⟩, ⟨y5, y6⟩, y7, y8⟩ := CF.out w2 hbq; have HBQ := hid hbq; clear hb2 hbq y3 y5 y6)
    have sq2 : w.heap.size + 1 ≤ w2.heap.size := by have := HBQ.out.size; simpa using this
    have HB2a := hid (show Below w2.heap.size w2 ((w2.alloc (.cells #[.string x] 9)).drew) from ((Below.refl _ _).alloc (Nat.le_refl _) _).drew)
    have HB2d := hid (show Below w2.heap.size w2 ((w2.alloc (.cells #[.string X] 9)).drew) from ((Below.refl _ _).alloc (Nat.le_refl _) _).drew)
    have HB2b := hid (show Below w2.heap.size w2 (((w2.alloc (.cells #[.string x] 9)).alloc (.cells #[.string X] 9)).drew) from (((Below.refl _ _).alloc (Nat.le_refl _) _).alloc (by simp) _).drew)
    have HB2c := hid (show Below w2.heap.size w2 (((w2.alloc (.cells #[.string X] 9)).alloc (.cells #[.string x] 9)).drew) from (((Below.refl _ _).alloc (Nat.le_refl _) _).alloc (by simp) _).drew)
    have e2a := SF.out _ (HBQ.out.trans (HB2a.out.mono sq2))
    have e2b := SF.out _ (HBQ.out.trans (HB2b.out.mono sq2))
    have e2c := SF.out _ (HBQ.out.trans (HB2c.out.mono sq2))
    have e2d := SF.out _ (HBQ.out.trans (HB2d.out.mono sq2))
    have HSXa := hid (show SV ((w2.alloc (.cells #[.string x] 9)).drew) (some ⟨w2.heap.size, 0, none⟩) 1 1 [x] from (sv_new1 w2 x 9 _ rfl).kept (Kept.of_below (Below.refl _ _).drew (Nat.le_refl _)))
    have HSXb := hid (show SV (((w2.alloc (.cells #[.string x] 9)).alloc (.cells #[.string X] 9)).drew) (some ⟨w2.heap.size, 0, none⟩) 1 1 [x] from (sv_new1 w2 x 9 _ rfl).kept (Kept.of_below ((Below.refl _ _).alloc (Nat.le_refl _) (.cells #[.string X] 9)).drew (Nat.le_refl _)))
    have HSXc := hid (show SV (((w2.alloc (.cells #[.string X] 9)).alloc (.cells #[.string x] 9)).drew) (some ⟨w2.heap.size + 1, 0, none⟩) 1 1 [x] from (sv_new1 (w2.alloc (.cells #[.string X] 9)) x 9 _ (by simp)).kept (Kept.of_below (Below.refl _ _).drew (Nat.le_refl _)))
    have HSYb := hid (show SV (((w2.alloc (.cells #[.string x] 9)).alloc (.cells #[.string X] 9)).drew) (some ⟨w2.heap.size + 1, 0, none⟩) 1 1 [X] from (sv_new1 (w2.alloc (.cells #[.string x] 9)) X 9 _ (by simp)).kept (Kept.of_below (Below.refl _ _).drew (Nat.le_refl _)))
    have HSYc := hid (show SV (((w2.alloc (.cells #[.string X] 9)).alloc (.cells #[.string x] 9)).drew) (some ⟨w2.heap.size, 0, none⟩) 1 1 [X] from (sv_new1 w2 X 9 _ rfl).kept (Kept.of_below ((Below.refl _ _).alloc (Nat.le_refl _) (.cells #[.string x] 9)).drew (Nat.le_refl _)))
    have HSV1 := hid (fun W (hb : Below w2.heap.size w2 W) => HSN0.out W (HBQ.out.trans (hb.mono sq2)))
    have HSV2 := hid (fun W hb => HST0.out W hb)
    go_region_held3 (fun w' => w'.cell? ⟨w.heap.size, 0, none⟩ = some (.string ByteArray.empty) ∧ w'.cell? ⟨w.heap.size, 1, none⟩ = some (.slice (some ⟨b, 0, none⟩) 4 cap) ∧ w'.cell? ⟨b, 2, none⟩ = some (.string x) ∧ w'.cell? ⟨b, 6, none⟩ = some (.string (A 3).a) ∧ w'.cell? ⟨b, 7, none⟩ = some (.slice (A 3).p (A 3).l (A 3).c))
      (first | exact ⟨y0, y1, y4, y7, y8⟩ | exact e6 | exact e5 | exact e4 | exact e3 | exact e2a | exact e2b | exact e2c | exact e2d)
      (first
        | (have _ := HB5; go_at_call 11; refine (HIH.out w4 (CF.out w4 HB5.out).2.1.out.1 (by have := HB5.out.size; simp at this; omega) _ _ _ _ HSN2.out HST.out).mono ?_; rintro e w5 ⟨rfl, hb5⟩; have HB6 := hid (HB5.out.trans (hb5.mono (by have := HB5.out.size; simpa using this))); have e6 := SF.out w5 HB6.out; clear hb5)
        | (have _ := HB3; go_at_call 20; refine (HWS.out _ _ _ _ _ (HSV2.out _ HB4.out) HSX2.out).mono ?_; rintro e w4 hp4; obtain ⟨q4, c4, he4, hsv4, hlt4, hb4⟩ := hp4.full; rw [HLT.out] at he4 hsv4; subst he4; have HB5 := hid (HB4.out.trans (hb4.mono (by have := HB4.out.size; simpa using this))); have HST := hid hsv4; have HSN2 := hid (HSN.out.kept (Kept.of_below (HB34.out.trans (hb4.mono HB34.out.size)) (Nat.le_refl _))); have e5 := SF.out w4 HB5.out; clear hb4 hlt4 hsv4 hp4)
        | (go_at_call 20; refine (HWN.out _ _ _ _ _ (HSV1.out _ HB2a.out) HSXa.out).mono ?_; rintro e w3 hp3; obtain ⟨q3, c3, he3, hsv3, hlt3, hb3⟩ := hp3.full; rw [HLN.out] at he3 hsv3; subst he3; have hb03 := below_nx hb3 HB2a.out; have HB3 := hid (HBQ.out.trans (hb03.mono sq2)); have s3 := hb03.size; have HSN := hid hsv3; have e3 := SF.out w3 HB3.out; have HB4 := hid ((HB3.out.alloc (by have := HB3.out.size; simp at this; omega) (.cells #[.string X] 9))); have e4 := SF.out _ HB4.out; have HSX2 := hid (sv_new1 w3 X 9 w3.heap.size rfl); have HB34 := hid ((Below.refl w3.heap.size w3).alloc (Nat.le_refl _) (.cells #[.string X] 9)); clear hb3 hb03 hlt3 hsv3 hp3)
        | (go_at_call 20; refine (HWN.out _ _ _ _ _ (HSV1.out _ HB2b.out) HSXb.out).mono ?_; rintro e w3 hp3; obtain ⟨q3, c3, he3, hsv3, hlt3, hb3⟩ := hp3.full; rw [HLN.out] at he3 hsv3; subst he3; have hb03 := below_nx hb3 HB2b.out; have HB3 := hid (HBQ.out.trans (hb03.mono sq2)); have s3 := hb03.size; have HSN := hid hsv3; have e3 := SF.out w3 HB3.out; have HB4 := HB3; have HSX2 := hid (HSYb.out.kept (Kept.of_below hb3 (Nat.le_refl _))); have HB34 := hid (Below.refl w3.heap.size w3); clear hb3 hb03 hlt3 hsv3 hp3)
        | (go_at_call 20; refine (HWN.out _ _ _ _ _ (HSV1.out _ HB2c.out) HSXc.out).mono ?_; rintro e w3 hp3; obtain ⟨q3, c3, he3, hsv3, hlt3, hb3⟩ := hp3.full; rw [HLN.out] at he3 hsv3; subst he3; have hb03 := below_nx hb3 HB2c.out; have HB3 := hid (HBQ.out.trans (hb03.mono sq2)); have s3 := hb03.size; have HSN := hid hsv3; have e3 := SF.out w3 HB3.out; have HB4 := HB3; have HSX2 := hid (HSYc.out.kept (Kept.of_below hb3 (Nat.le_refl _))); have HB34 := hid (Below.refl w3.heap.size w3); clear hb3 hb03 hlt3 hsv3 hp3))
    all_goals
      go_wp2_with fail
      go_ret
      exact ⟨ret_str HZE.out.symm, ((Below.refl w.heap.size w).alloc (Nat.le_refl _) _).trans (HB6.out.mono (by omega))⟩
  | some t =>
    have HMK := hid (fun W => hmk t rfl W)
    rw [show txt7 (lim12 (some (STy.fn s t))) = Z from by rw [← HZ.out, HTY.out]] at HMK
    have HKE := hnp
    rw [show t.tree.txt = txt7 (some t) from rfl] at HMK
    obtain ⟨V, hV⟩ : ∃ V, txt7 (some t) = V := ⟨_, rfl⟩
    rw [hV] at HIH HKE HMK
    have HKE2 : (V.toList == []) = false := HKE
    clear hV hnp hmk HTY HZ HKE
    go_enter Tryd.func11, Tryd.ntmps11
    go_wp2_with (go_at_call 22; refine (HT.out _ hz2.out.1 (by simp; omega)).mono ?_; rintro e w2 ⟨rfl, hb2⟩; have hbq : Below (w.heap.size + 1) (w.alloc (.cells #[.string ByteArray.empty, .slice (some ⟨b, 0, none⟩) 4 cap] 33)) w2 := (by simpa using hb2); obtain ⟨⟨y0, y1⟩, hy2, ⟨y3, y4⟩, ⟨y5, y6⟩, y7, y8⟩ := CF.out w2 hbq; have HBQ := hid hbq; clear hb2 hbq y3 y5 y6)
    have sq2 : w.heap.size + 1 ≤ w2.heap.size := by have := HBQ.out.size; simpa using this
    have HB2a := hid (show Below w2.heap.size w2 ((w2.alloc (.cells #[.string x] 9)).drew) from ((Below.refl _ _).alloc (Nat.le_refl _) _).drew)
    have HB2d := hid (show Below w2.heap.size w2 ((w2.alloc (.cells #[.string X] 9)).drew) from ((Below.refl _ _).alloc (Nat.le_refl _) _).drew)
    have HB2b := hid (show Below w2.heap.size w2 (((w2.alloc (.cells #[.string x] 9)).alloc (.cells #[.string X] 9)).drew) from (((Below.refl _ _).alloc (Nat.le_refl _) _).alloc (by simp) _).drew)
    have HB2c := hid (show Below w2.heap.size w2 (((w2.alloc (.cells #[.string X] 9)).alloc (.cells #[.string x] 9)).drew) from (((Below.refl _ _).alloc (Nat.le_refl _) _).alloc (by simp) _).drew)
    have e2a := SF.out _ (HBQ.out.trans (HB2a.out.mono sq2))
    have e2b := SF.out _ (HBQ.out.trans (HB2b.out.mono sq2))
    have e2c := SF.out _ (HBQ.out.trans (HB2c.out.mono sq2))
    have e2d := SF.out _ (HBQ.out.trans (HB2d.out.mono sq2))
    have HSXa := hid (show SV ((w2.alloc (.cells #[.string x] 9)).drew) (some ⟨w2.heap.size, 0, none⟩) 1 1 [x] from (sv_new1 w2 x 9 _ rfl).kept (Kept.of_below (Below.refl _ _).drew (Nat.le_refl _)))
    have HSXb := hid (show SV (((w2.alloc (.cells #[.string x] 9)).alloc (.cells #[.string X] 9)).drew) (some ⟨w2.heap.size, 0, none⟩) 1 1 [x] from (sv_new1 w2 x 9 _ rfl).kept (Kept.of_below ((Below.refl _ _).alloc (Nat.le_refl _) (.cells #[.string X] 9)).drew (Nat.le_refl _)))
    have HSXc := hid (show SV (((w2.alloc (.cells #[.string X] 9)).alloc (.cells #[.string x] 9)).drew) (some ⟨w2.heap.size + 1, 0, none⟩) 1 1 [x] from (sv_new1 (w2.alloc (.cells #[.string X] 9)) x 9 _ (by simp)).kept (Kept.of_below (Below.refl _ _).drew (Nat.le_refl _)))
    have HSYb := hid (show SV (((w2.alloc (.cells #[.string x] 9)).alloc (.cells #[.string X] 9)).drew) (some ⟨w2.heap.size + 1, 0, none⟩) 1 1 [X] from (sv_new1 (w2.alloc (.cells #[.string x] 9)) X 9 _ (by simp)).kept (Kept.of_below (Below.refl _ _).drew (Nat.le_refl _)))
    have HSYc := hid (show SV (((w2.alloc (.cells #[.string X] 9)).alloc (.cells #[.string x] 9)).drew) (some ⟨w2.heap.size, 0, none⟩) 1 1 [X] from (sv_new1 w2 X 9 _ rfl).kept (Kept.of_below ((Below.refl _ _).alloc (Nat.le_refl _) (.cells #[.string x] 9)).drew (Nat.le_refl _)))
    have HSV1 := hid (fun W (hb : Below w2.heap.size w2 W) => HSN0.out W (HBQ.out.trans (hb.mono sq2)))
    have HSV2 := hid (fun W hb => HST0.out W hb)
    go_region_held3 (fun w' => w'.cell? ⟨w.heap.size, 0, none⟩ = some (.string ByteArray.empty) ∧ w'.cell? ⟨w.heap.size, 1, none⟩ = some (.slice (some ⟨b, 0, none⟩) 4 cap) ∧ w'.cell? ⟨b, 2, none⟩ = some (.string x) ∧ w'.cell? ⟨b, 6, none⟩ = some (.string (A 3).a) ∧ w'.cell? ⟨b, 7, none⟩ = some (.slice (A 3).p (A 3).l (A 3).c))
      (first | exact ⟨y0, y1, y4, y7, y8⟩ | exact e6 | exact e5 | exact e4 | exact e3 | exact e2a | exact e2b | exact e2c | exact e2d)
      (first
        | (have _ := HB5; go_at_call 11; refine (HIH.out w4 (CF.out w4 HB5.out).2.1.out.1 (by have := HB5.out.size; simp at this; omega) _ _ _ _ HSN2.out HST.out).mono ?_; rintro e w5 ⟨rfl, hb5⟩; have HB6 := hid (HB5.out.trans (hb5.mono (by have := HB5.out.size; simpa using this))); have e6 := SF.out w5 HB6.out; clear hb5)
        | (have _ := HB3; go_at_call 20; refine (HWS.out _ _ _ _ _ (HSV2.out _ HB4.out) HSX2.out).mono ?_; rintro e w4 hp4; obtain ⟨q4, c4, he4, hsv4, hlt4, hb4⟩ := hp4.full; rw [HLT.out] at he4 hsv4; subst he4; have HB5 := hid (HB4.out.trans (hb4.mono (by have := HB4.out.size; simpa using this))); have HST := hid hsv4; have HSN2 := hid (HSN.out.kept (Kept.of_below (HB34.out.trans (hb4.mono HB34.out.size)) (Nat.le_refl _))); have e5 := SF.out w4 HB5.out; clear hb4 hlt4 hsv4 hp4)
        | (go_at_call 20; refine (HWN.out _ _ _ _ _ (HSV1.out _ HB2a.out) HSXa.out).mono ?_; rintro e w3 hp3; obtain ⟨q3, c3, he3, hsv3, hlt3, hb3⟩ := hp3.full; rw [HLN.out] at he3 hsv3; subst he3; have hb03 := below_nx hb3 HB2a.out; have HB3 := hid (HBQ.out.trans (hb03.mono sq2)); have s3 := hb03.size; have HSN := hid hsv3; have e3 := SF.out w3 HB3.out; have HB4 := hid ((HB3.out.alloc (by have := HB3.out.size; simp at this; omega) (.cells #[.string X] 9))); have e4 := SF.out _ HB4.out; have HSX2 := hid (sv_new1 w3 X 9 w3.heap.size rfl); have HB34 := hid ((Below.refl w3.heap.size w3).alloc (Nat.le_refl _) (.cells #[.string X] 9)); clear hb3 hb03 hlt3 hsv3 hp3)
        | (go_at_call 20; refine (HWN.out _ _ _ _ _ (HSV1.out _ HB2b.out) HSXb.out).mono ?_; rintro e w3 hp3; obtain ⟨q3, c3, he3, hsv3, hlt3, hb3⟩ := hp3.full; rw [HLN.out] at he3 hsv3; subst he3; have hb03 := below_nx hb3 HB2b.out; have HB3 := hid (HBQ.out.trans (hb03.mono sq2)); have s3 := hb03.size; have HSN := hid hsv3; have e3 := SF.out w3 HB3.out; have HB4 := HB3; have HSX2 := hid (HSYb.out.kept (Kept.of_below hb3 (Nat.le_refl _))); have HB34 := hid (Below.refl w3.heap.size w3); clear hb3 hb03 hlt3 hsv3 hp3)
        | (go_at_call 20; refine (HWN.out _ _ _ _ _ (HSV1.out _ HB2c.out) HSXc.out).mono ?_; rintro e w3 hp3; obtain ⟨q3, c3, he3, hsv3, hlt3, hb3⟩ := hp3.full; rw [HLN.out] at he3 hsv3; subst he3; have hb03 := below_nx hb3 HB2c.out; have HB3 := hid (HBQ.out.trans (hb03.mono sq2)); have s3 := hb03.size; have HSN := hid hsv3; have e3 := SF.out w3 HB3.out; have HB4 := HB3; have HSX2 := hid (HSYc.out.kept (Kept.of_below hb3 (Nat.le_refl _))); have HB34 := hid (Below.refl w3.heap.size w3); clear hb3 hb03 hlt3 hsv3 hp3))
    all_goals
      go_wp2_with (go_at_call 23; refine (HMK.out _).mono ?_; rintro e w6 ⟨rfl, hb6⟩)
      go_ret
      exact ⟨rfl, (((Below.refl w.heap.size w).alloc (Nat.le_refl _) _).trans (HB6.out.mono (by omega))).trans (hb6.mono (by have := HB6.out.size; simp at this; omega))⟩
end Go.Proofs.YtapimaabijgaiaaDoor
