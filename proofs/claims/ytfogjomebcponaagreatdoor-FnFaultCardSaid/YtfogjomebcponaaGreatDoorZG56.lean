/- Merged: TmKids, LtP. -/
import Derived.Test.YtfogjomebcponaaGreatDoorZG52
import Derived.Test.YtfogjomebcponaaGreatDoorZG37
namespace Go.Proofs.YtfogjomebcponaaGreatDoor
open Go.RowKit
set_option maxRecDepth 100000
set_option maxHeartbeats 2000000
def Tm.ks : Tm → List Tm
 | .mk _ _ _ _ _ ks => ks
def Tm.txt (m : Tm) : ByteArray := ⟨m.write.toArray⟩
def Tree.ktxs : List Sg → List Tree → List ByteArray
 | [], _ => []
 | _ :: _, [] => []
 | c :: cs, p :: ps => (if c.isK = true then [p.txt] else []) ++ Tree.ktxs cs ps
def Tree.ktx : Tree → List ByteArray
 | .atom _ => []
 | .node [] => []
 | .node (h :: ps) => Tree.ktxs (shape h.text.toList) ps
theorem tm_txt {t : Tree} {ar : List ByteArray} {m : Tm} (h : t.tm ar = some m) : m.txt = t.txt := by rw [Tm.txt, Tree.txt, tm_write t ar m h]
theorem parts_ktx (ar : List ByteArray) : ∀ (cs : List Sg) (ps : List Tree) (st st' : St), cs.length = ps.length →
    Tree.parts ar cs ps st = some st' → st'.kids.map Tm.txt = st.kids.map Tm.txt ++ Tree.ktxs cs ps
 | [], [], st, st', _, h => by simp [Tree.parts] at h; subst h; simp [Tree.ktxs]
 | c :: cs, p :: ps, st, st', hl, h => by
  have hl' : cs.length = ps.length := by simpa using hl
  have kid : ∀ v, c.isK = true → ∀ st1, addK v (p.tm (ar ++ st.binds)) st = some st1 → Tree.parts ar cs ps st1 = some st' → st'.kids.map Tm.txt = st.kids.map Tm.txt ++ Tree.ktxs (c :: cs) (p :: ps) := by
   intro v hk st1 h1 h2
   obtain ⟨m, ht, h3⟩ := adk h1
   rw [parts_ktx ar cs ps st1 st' hl' h2, h3, Tree.ktxs, if_pos hk]
   simp [tm_txt ht]
  have other : c.isK = false → ∀ st1, st1.kids = st.kids → Tree.parts ar cs ps st1 = some st' → st'.kids.map Tm.txt = st.kids.map Tm.txt ++ Tree.ktxs (c :: cs) (p :: ps) := by
   intro hk st1 h1 h2
   rw [parts_ktx ar cs ps st1 st' hl' h2, h1, Tree.ktxs, if_neg (by rw [hk]; simp)]
   simp
  cases c with
  | X =>
   rw [Tree.parts] at h
   cases h1 : addX p.text st with
   | none => rw [h1] at h; simp at h
   | some st1 => rw [h1] at h; exact other rfl st1 (by rw [(adx h1).2]) h
  | A =>
   rw [Tree.parts] at h
   cases h1 : addT true p st with
   | none => rw [h1] at h; simp at h
   | some st1 => rw [h1] at h; obtain ⟨ty, _, h2⟩ := adt h1; exact other rfl st1 (by rw [h2]) h
  | C =>
   rw [Tree.parts] at h
   cases h1 : addT false p st with
   | none => rw [h1] at h; simp at h
   | some st1 => rw [h1] at h; obtain ⟨ty, _, h2⟩ := adt h1; exact other rfl st1 (by rw [h2]) h
  | V =>
   rw [Tree.parts] at h
   cases h1 : addK true (p.tm (ar ++ st.binds)) st with
   | none => rw [h1] at h; simp at h
   | some st1 => rw [h1] at h; exact kid true rfl st1 h1 h
  | M =>
   rw [Tree.parts] at h
   cases h1 : addK false (p.tm (ar ++ st.binds)) st with
   | none => rw [h1] at h; simp at h
   | some st1 => rw [h1] at h; exact kid false rfl st1 h1 h
theorem tm_ktx (t : Tree) (ar : List ByteArray) (m : Tm) (h : t.tm ar = some m) : m.ks.map Tm.txt = t.ktx := by
 match t with
 | .atom s =>
  rw [Tree.tm, atomTm] at h
  split at h
  ·simp at h; subst h; rfl
  ·split at h
   ·simp at h; subst h; rfl
   ·simp at h
 | .node [] => rw [Tree.tm] at h; simp at h
 | .node (q :: ps) =>
  obtain ⟨st, h1, h2, h3, rfl⟩ := tmn h
  have := parts_ktx ar _ ps St.none st h2 h3
  rw [Tree.ktx, Tm.ks, this]
  simp [St.none]
theorem ktxs_mem : ∀ (cs : List Sg) (ps : List Tree) (x : ByteArray), x ∈ Tree.ktxs cs ps → ∃ p ∈ ps, x = p.txt
 | [], _, x, h => by simp [Tree.ktxs] at h
 | _ :: _, [], x, h => by simp [Tree.ktxs] at h
 | c :: cs, p :: ps, x, h => by
  rw [Tree.ktxs, List.mem_append] at h
  rcases h with h | h
  ·split at h
   ·exact ⟨p, List.mem_cons_self .., by simpa using h⟩
   ·simp at h
  ·obtain ⟨q, hq, e⟩ := ktxs_mem cs ps x h
   exact ⟨q, List.mem_cons_of_mem _ hq, e⟩
theorem ktxs_length : ∀ (cs : List Sg) (ps : List Tree), (Tree.ktxs cs ps).length ≤ cs.length
 | [], _ => by simp [Tree.ktxs]
 | _ :: _, [] => by simp [Tree.ktxs]
 | c :: cs, p :: ps => by
  rw [Tree.ktxs, List.length_append, List.length_cons]
  have := ktxs_length cs ps
  split <;> simp <;> omega
theorem ktx_length (t : Tree) : t.ktx.length ≤ 4 := by
 match t with
 | .atom _ => simp [Tree.ktx]
 | .node [] => simp [Tree.ktx]
 | .node (q :: ps) => rw [Tree.ktx]; have := ktxs_length (shape q.text.toList) ps; have := sha q.text.toList; omega
theorem ktx_mem {t : Tree} {x : ByteArray} (h : x ∈ t.ktx) : x.size ≤ t.write.length := by
 match t with
 | .atom _ => simp [Tree.ktx] at h
 | .node [] => simp [Tree.ktx] at h
 | .node (q :: ps) =>
  rw [Tree.ktx] at h
  obtain ⟨p, hp, rfl⟩ := ktxs_mem _ _ x h
  obtain ⟨i, hi, rfl⟩ := List.getElem_of_mem hp
  have := join_part (q :: ps) (i + 1) ps[i] (by simp [hi])
  rw [txt_size, wre]; simp; omega
theorem NIn.kids {w : World} {S : Nat → Prop} {m : Tm} {b : Nat} (h : NIn w S m b) : ∃ (kp : Option Addr) (kl kc : Nat) (A : Nat → Nat), w.cell? ⟨b, 5, none⟩ = some (.slice kp kl kc) ∧ m.ks.length = kl ∧ kl ≤ kc ∧ RIn w S kp (ptrs A kl) ∧ ∀ i k, m.ks[i]? = some k → NIn w S k (A i) := by
 cases h with
 | mk hd a d bs ty ks b bp bl bc kp kl kc A hS0 hb0 hbl hkl hbn hbv hkv hks =>
  exact ⟨kp, kl, kc, A, (ces hb0).2.2.2.2.2.1, hkl, hbn.2, hkv, hks⟩
theorem Tm.fits_ks {m : Tm} (h : m.fit) : Tm.fits m.ks := by
 cases m with
 | mk hd a d bs ty ks => rw [Tm.fit] at h; exact h.2
def kidsOf (s : ByteArray) : Option (List ByteArray) := (readTm s).map fun m => m.ks.map Tm.txt
theorem kidsOf_none {s : ByteArray} (h : readTm s = none) : kidsOf s = none := by rw [kidsOf, h]; rfl
theorem kidsOf_some {s : ByteArray} {m : Tm} (h : readTm s = some m) : kidsOf s = some (m.ks.map Tm.txt) := by rw [kidsOf, h]; rfl
theorem kids_bound (s : ByteArray) : ((kidsOf s).getD []).length ≤ 4 := by
 unfold kidsOf
 cases hr : readTm s with
 | none => simp
 | some m =>
  obtain ⟨t, _, htm, _, _⟩ := rea hr
  have h1 := ktx_length t
  rw [← tm_ktx t [] m htm] at h1
  simpa using h1
theorem implTermKids_any (s : ByteArray) (hs : s.size ≤ 400000000) (w : World) : Calls Tryz.prog 18 #[.string s] w (ListPost (kidsOf s) w) := by
 have HC := hid (fun W => readTerm_any s hs W)
 cases hr : readTm s with
 | none =>
  have HR := hid hr
  rw [kidsOf_none hr]
  clear hr
  go_enter Tryz.func18, Tryz.ntmps18
  go_wp2_with (go_at_call 29; refine (HC.out _).mono ?_; rintro e w1 hp; rw [HR.out] at hp; obtain ⟨rfl, hb1⟩ := hp.none; clear hp)
  go_ret2
  exact ⟨⟨none, 0, rfl, World.ownsRow_nil _ _ _ _⟩, hb1⟩
 | some m =>
  have HR := hid hr
  obtain ⟨t, hpt, htm, _, _⟩ := rea hr
  rw [kidsOf_some hr]
  have hfit := Tm.fits_ks (tm_fit t [] m htm)
  have hkx := tm_ktx t [] m htm
  have hsm := parse_small hpt
  have hkl4 : m.ks.length ≤ 4 := by have := ktx_length t; rw [← hkx] at this; simpa using this
  have hws : ∀ (i : Nat) (k : Tm), m.ks[i]? = some k → k.write.length ≤ 12000 := by
   intro i k hk
   have h1 : k.txt ∈ t.ktx := by rw [← hkx]; exact List.mem_map_of_mem (List.mem_of_getElem? hk)
   have h2 := ktx_mem h1
   simp [Tm.txt, ByteArray.size] at h2
   omega
  have HT := hid (fun (w0 : World) (S : Nat → Prop) (b i : Nat) (k : Tm) (hk : m.ks[i]? = some k) (hn : NIn w0 S k b) (W : World) (hkk : Kept w0 W) (hw : w0.heap.size ≤ W.heap.size) => text_any hn (tmfits_get m.ks i k hfit hk) (hws i k hk) W hkk hw)
  have HM := hid hkl4
  clear hr hpt htm hfit hkx hsm hws hkl4
  obtain ⟨i0, hi0, hz0, hz1, hz2⟩ := info_parts Tryz.infoStr
  go_enter Tryz.func18, Tryz.ntmps18
  go_wp2_with (go_at_call 29; refine (HC.out _).mono ?_; rintro e w1 hp; rw [HR.out] at hp; obtain ⟨b, rfl, hb1, hn1⟩ := hp.some; clear hp; obtain ⟨kp, n, kc0, A, hc5, hkl, hkc, hkv, hks⟩ := hn1.kids; have HKV := hid hkv; have HKS := hid hks; have HKL := hid hkl; have HB := hid hb1; have hs1 := hb1.size; clear hkv hks hkl hn1 hb1)
  have hn4 : n ≤ 4 := by rw [← HKL.out]; exact HM.out
  go_loopw [6, 21] (fun v u wr => ∃ (i kc : Nat) (q : Option Addr), i ≤ n ∧ u = .int .i64 (i : Int) ∧ v = .slice q i kc ∧ wr.ownsRow w1.heap.size 9 1 (.slice q i kc) i (((m.ks.map Tm.txt).take i).map Value.string) ∧ Below w1.heap.size w1 wr) (fun _ u _ => n - (intOf u).toNat)
  case atStart => exact ⟨0, 0, none, Nat.zero_le _, rfl, rfl, World.ownsRow_nil _ _ _ _, Below.refl _ _⟩
  case round =>
   obtain ⟨i, kc, q, hi, rfl, rfl, hown, hbel⟩ := hrel
   have hz := hbel.size
   have HOWN := hid hown
   have HBEL := hid hbel
   clear hown hbel
   by_cases hlt : i < n
   ·obtain ⟨x, hx⟩ : ∃ x, m.ks[i]? = some x := ⟨_, List.getElem?_eq_getElem (by rw [HKL.out]; exact hlt)⟩
    obtain ⟨g, rfl, _, hc⟩ := HKV.out i _ (ptrs_get A hlt)
    have hc' := (HBEL.out.cell (p := ⟨g, i, none⟩) (World.block_lt_of_cell? w1 _ hc)).trans hc
    have HX := hid (show ((m.ks.map Tm.txt).take (i + 1)).map Value.string = ((m.ks.map Tm.txt).take i).map Value.string ++ [.string ⟨x.write.toArray⟩] by rw [List.take_add_one, List.getElem?_map, hx, List.map_append]; rfl)
    have HCT := hid (HT.out w1 _ (A i) i x hx (HKS.out i x hx) wr (Kept.of_below HBEL.out (Nat.le_refl _)) HBEL.out.size)
    obtain ⟨X, hX⟩ : ∃ X : ByteArray, ⟨x.write.toArray⟩ = X := ⟨_, rfl⟩
    rw [hX] at HX HCT
    clear hc hx hX
    go_wp2_with (first | (at_builtin; have s5 := hb5.size; refine wpl _ rfl _ _ 22 rfl w1.heap.size 9 i0 (.string ByteArray.empty) 1 16 Tryz.underlying22 hi0 hz0 hz1 hz2 rfl (by decide) (.slice q i kc) i _ rfl ((ows HOWN.out hb5).alloc _) ⟨w5.heap.size, 0, none⟩ 1 1 [.string X] rfl rfl (cen _ _ _ _ rfl) (by intro u hu; simp at hu; subst hu; rfl) (by decide) (by unfold maxLen; omega) (by omega) (by simp; omega) ?_; intro v' w6 hown2 hg2 hw2 hv2; obtain ⟨g2, kc2, rfl⟩ := hv2; have HG := hid hg2; have HO := hid hown2; clear hg2 hown2 hw2) | (go_at_call 37; refine HCT.out.mono ?_; rintro e w5 ⟨rfl, hb5⟩))
    go_roundw
    case rel =>
     refine ⟨i + 1, kc2, some ⟨g2, 0, none⟩, by omega, by go_num, rfl, by rw [HX.out]; exact HO.out, ?_⟩
     exact ((HBEL.out.trans (hb5.mono hz)).alloc (by omega) _).grown HG.out (by simp; omega) (fun k e => (HOWN.out.lt k e).1)
    case measure => simp [intOf]; omega
   ·have hin : i = n := by omega
    subst hin
    have HF := hid (show (m.ks.map Tm.txt).take i = m.ks.map Tm.txt from List.take_of_length_le (by rw [List.length_map, HKL.out]; exact Nat.le_refl _))
    have HL := hid (show (m.ks.map Tm.txt).length = i by rw [List.length_map, HKL.out])
    go_wp2_with fail
    go_ret2
    refine ListPost.of (l := m.ks.map Tm.txt) (b := true) rfl rfl ⟨⟨q, kc, ?_, ?_⟩, HB.out.trans (HBEL.out.mono (by omega))⟩
    ·rw [HL.out]; rfl
    ·rw [HL.out]; have := own_base HOWN.out hs1; rw [HF.out] at this; exact this
theorem read_back {p : Tree} {k : Tm} (hw : p.wk) (hd : p.dp ≤ 101) (hl : p.write.length ≤ 12000) (hs : p.size ≤ 1500) (h : p.tm [] = some k) {s : ByteArray} (he : s.data.toList = p.write) : readTm s = some k := by
 unfold readTm
 rw [parse_back he hw hd hl]
 simp only
 rw [if_pos hs, h]
end Go.Proofs.YtfogjomebcponaaGreatDoor
