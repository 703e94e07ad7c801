/- Merged: TmKids, TmKidsLI, TmKidsL. -/
import Derived.Deep.RegionWith
import Derived.Test.YthpcmglnooemaaaGreatDoorKM19
import Derived.Test.YthpcmglnooemaaaGreatDoorKM16
import Derived.Test.YthpcmglnooemaaaGreatDoorKM28
import Derived.Test.YthpcmglnooemaaaGreatDoorKM26
import Derived.Test.YthpcmglnooemaaaGreatDoorKM11
import Derived.Test.YthpcmglnooemaaaGreatDoorKMSMarkT
namespace Go.Proofs.YthpcmglnooemaaaGreatDoor
open Go.RowKit

def Tm.ks : Tm → List Tm
  | .mk _ _ _ _ _ ks => ks
/-- A term's text. -/
def Tm.txt (m : Tm) : ByteArray := ⟨m.write.toArray⟩
def Tree.ktxs : List Sg → List Tree → List ByteArray
  | [], _ => []
  | _ :: _, [] => []
  | c :: cs, p :: ps => (if c.isK = true then [p.txt] else []) ++ Tree.ktxs cs ps
/-- The texts of the terms that are parts of a tree. -/
def Tree.ktx : Tree → List ByteArray
  | .atom _ => []
  | .node [] => []
  | .node (h :: ps) => Tree.ktxs (shape h.text.toList) ps
theorem tm_txt {t : Tree} {ar : List ByteArray} {m : Tm} (h : t.tm ar = some m) : m.txt = t.txt := by rw [Tm.txt, Tree.txt, tm_write t ar m h]
theorem parts_ktx (ar : List ByteArray) : ∀ (cs : List Sg) (ps : List Tree) (st st' : St), cs.length = ps.length →
    Tree.parts ar cs ps st = some st' → st'.kids.map Tm.txt = st.kids.map Tm.txt ++ Tree.ktxs cs ps
  | [], [], st, st', _, h => by simp [Tree.parts] at h; subst h; simp [Tree.ktxs]
  | c :: cs, p :: ps, st, st', hl, h => by
    have hl' : cs.length = ps.length := by simpa using hl
    have kid : ∀ v, c.isK = true → ∀ st1, addK v (p.tm (ar ++ st.binds)) st = some st1 → Tree.parts ar cs ps st1 = some st' → st'.kids.map Tm.txt = st.kids.map Tm.txt ++ Tree.ktxs (c :: cs) (p :: ps) := by
      intro v hk st1 h1 h2
      obtain ⟨m, ht, h3⟩ := addK_inv h1
      rw [parts_ktx ar cs ps st1 st' hl' h2, h3, Tree.ktxs, if_pos hk]
      simp [tm_txt ht]
    have other : c.isK = false → ∀ st1, st1.kids = st.kids → Tree.parts ar cs ps st1 = some st' → st'.kids.map Tm.txt = st.kids.map Tm.txt ++ Tree.ktxs (c :: cs) (p :: ps) := by
      intro hk st1 h1 h2
      rw [parts_ktx ar cs ps st1 st' hl' h2, h1, Tree.ktxs, if_neg (by rw [hk]; simp)]
      simp
    cases c with
    | X =>
      rw [Tree.parts] at h
      cases h1 : addX p.text st with
      | none => rw [h1] at h; simp at h
      | some st1 => rw [h1] at h; exact other rfl st1 (by rw [(addX_inv h1).2]) h
    | A =>
      rw [Tree.parts] at h
      cases h1 : addT true p st with
      | none => rw [h1] at h; simp at h
      | some st1 => rw [h1] at h; obtain ⟨ty, _, h2⟩ := addT_inv h1; exact other rfl st1 (by rw [h2]) h
    | C =>
      rw [Tree.parts] at h
      cases h1 : addT false p st with
      | none => rw [h1] at h; simp at h
      | some st1 => rw [h1] at h; obtain ⟨ty, _, h2⟩ := addT_inv h1; exact other rfl st1 (by rw [h2]) h
    | V =>
      rw [Tree.parts] at h
      cases h1 : addK true (p.tm (ar ++ st.binds)) st with
      | none => rw [h1] at h; simp at h
      | some st1 => rw [h1] at h; exact kid true rfl st1 h1 h
    | M =>
      rw [Tree.parts] at h
      cases h1 : addK false (p.tm (ar ++ st.binds)) st with
      | none => rw [h1] at h; simp at h
      | some st1 => rw [h1] at h; exact kid false rfl st1 h1 h
theorem tm_ktx (t : Tree) (ar : List ByteArray) (m : Tm) (h : t.tm ar = some m) : m.ks.map Tm.txt = t.ktx := by
  match t with
  | .atom s =>
    rw [Tree.tm, atomTm] at h
    split at h
    · simp at h; subst h; rfl
    · split at h
      · simp at h; subst h; rfl
      · simp at h
  | .node [] => rw [Tree.tm] at h; simp at h
  | .node (q :: ps) =>
    obtain ⟨st, h1, h2, h3, rfl⟩ := tm_node h
    have := parts_ktx ar _ ps St.none st h2 h3
    rw [Tree.ktx, Tm.ks, this]
    simp [St.none]
theorem ktxs_mem : ∀ (cs : List Sg) (ps : List Tree) (x : ByteArray), x ∈ Tree.ktxs cs ps → ∃ p ∈ ps, x = p.txt
  | [], _, x, h => by simp [Tree.ktxs] at h
  | _ :: _, [], x, h => by simp [Tree.ktxs] at h
  | c :: cs, p :: ps, x, h => by
    rw [Tree.ktxs, List.mem_append] at h
    rcases h with h | h
    · split at h
      · exact ⟨p, List.mem_cons_self .., by simpa using h⟩
      · simp at h
    · obtain ⟨q, hq, e⟩ := ktxs_mem cs ps x h
      exact ⟨q, List.mem_cons_of_mem _ hq, e⟩
theorem ktxs_length : ∀ (cs : List Sg) (ps : List Tree), (Tree.ktxs cs ps).length ≤ cs.length
  | [], _ => by simp [Tree.ktxs]
  | _ :: _, [] => by simp [Tree.ktxs]
  | c :: cs, p :: ps => by
    rw [Tree.ktxs, List.length_append, List.length_cons]
    have := ktxs_length cs ps
    split <;> simp <;> omega
theorem ktx_length (t : Tree) : t.ktx.length ≤ 4 := by
  match t with
  | .atom _ => simp [Tree.ktx]
  | .node [] => simp [Tree.ktx]
  | .node (q :: ps) => rw [Tree.ktx]; have := ktxs_length (shape q.text.toList) ps; have := shape_four q.text.toList; omega
theorem ktx_mem {t : Tree} {x : ByteArray} (h : x ∈ t.ktx) : x.size ≤ t.write.length := by
  match t with
  | .atom _ => simp [Tree.ktx] at h
  | .node [] => simp [Tree.ktx] at h
  | .node (q :: ps) =>
    rw [Tree.ktx] at h
    obtain ⟨p, hp, rfl⟩ := ktxs_mem _ _ x h
    obtain ⟨i, hi, rfl⟩ := List.getElem_of_mem hp
    have := join_part (q :: ps) (i + 1) ps[i] (by simp [hi])
    rw [txt_size, write_node]; simp; omega
theorem ktxs_step {cs : List Sg} {qs : List Tree} {j : Nat} {c : Sg} {p : Tree} (hc : cs[j]? = some c) (hp : qs[j]? = some p) :
    Tree.ktxs (cs.drop j) (qs.drop j) = (if c.isK = true then [p.txt] else []) ++ Tree.ktxs (cs.drop (j + 1)) (qs.drop (j + 1)) := by
  rw [drop_at hc, drop_at hp, Tree.ktxs]
theorem NIn.kids {w : World} {S : Nat → Prop} {m : Tm} {b : Nat} (h : NIn w S m b) : ∃ (kp : Option Addr) (kl kc : Nat) (A : Nat → Nat), w.cell? ⟨b, 5, none⟩ = some (.slice kp kl kc) ∧ m.ks.length = kl ∧ kl ≤ kc ∧ RIn w S kp (ptrs A kl) ∧ ∀ i k, m.ks[i]? = some k → NIn w S k (A i) := by
  cases h with
  | mk hd a d bs ty ks b bp bl bc kp kl kc A hS0 hb0 hbl hkl hbn hbv hkv hks =>
    exact ⟨kp, kl, kc, A, (cells_of_six hb0).2.2.2.2.2.1, hkl, hbn.2, hkv, hks⟩
theorem Tm.fits_ks {m : Tm} (h : m.fit) : Tm.fits m.ks := by
  cases m with
  | mk hd a d bs ty ks => rw [Tm.fit] at h; exact h.2
/-- What TermKids answers. -/
def kidsOf (s : ByteArray) : Option (List ByteArray) := (readTm s).map fun m => m.ks.map Tm.txt
theorem kidsOf_none {s : ByteArray} (h : readTm s = none) : kidsOf s = none := by rw [kidsOf, h]; rfl
theorem kidsOf_some {s : ByteArray} {m : Tm} (h : readTm s = some m) : kidsOf s = some (m.ks.map Tm.txt) := by rw [kidsOf, h]; rfl
theorem kids_bound (s : ByteArray) : ((kidsOf s).getD []).length ≤ 4 := by
  unfold kidsOf
  cases hr : readTm s with
  | none => simp
  | some m =>
    obtain ⟨t, _, htm, _, _⟩ := readTm_inv hr
    have h1 := ktx_length t
    rw [← tm_ktx t [] m htm] at h1
    simpa using h1

set_option maxRecDepth 100000 in
set_option maxHeartbeats 2000000 in
theorem implTermKids_any (s : ByteArray) (hs : s.size ≤ 400000000) (w : World) : Calls Tryz.prog 15 #[.string s] w (ListPost (kidsOf s) w) := by
  have HC := hid (fun W => readTerm_any s hs W)
  cases hr : readTm s with
  | none =>
    have HR := hid hr
    rw [kidsOf_none hr]
    clear hr
    go_enter Tryz.func15, Tryz.ntmps15
    go_wp2_with (go_at_call 42; refine (HC.out _).mono ?_; rintro e w1 hp; rw [HR.out] at hp; obtain ⟨rfl, hb1⟩ := hp.none; clear hp)
    go_ret2
    exact ⟨⟨none, 0, rfl, World.ownsRow_nil _ _ _ _⟩, hb1⟩
  | some m =>
    have HR := hid hr
    obtain ⟨t, hpt, htm, _, _⟩ := readTm_inv hr
    rw [kidsOf_some hr]
    have hfit := Tm.fits_ks (tm_fit t [] m htm)
    have hkx := tm_ktx t [] m htm
    have hsm := parse_small hpt
    have hkl4 : m.ks.length ≤ 4 := by have := ktx_length t; rw [← hkx] at this; simpa using this
    have hws : ∀ (i : Nat) (k : Tm), m.ks[i]? = some k → k.write.length ≤ 12000 := by
      intro i k hk
      have h1 : k.txt ∈ t.ktx := by rw [← hkx]; exact List.mem_map_of_mem (List.mem_of_getElem? hk)
      have h2 := ktx_mem h1
      simp [Tm.txt, ByteArray.size] at h2
      omega
    have HT := hid (fun (w0 : World) (S : Nat → Prop) (b i : Nat) (k : Tm) (hk : m.ks[i]? = some k) (hn : NIn w0 S k b) (W : World) (hkk : Kept w0 W) (hw : w0.heap.size ≤ W.heap.size) => text_any hn (tmfits_get m.ks i k hfit hk) (hws i k hk) W hkk hw)
    have HM := hid hkl4
    clear hr hpt htm hfit hkx hsm hws hkl4
    obtain ⟨i0, hi0, hz0, hz1, hz2⟩ := info_parts Tryz.infoStr
    go_enter Tryz.func15, Tryz.ntmps15
    go_wp2_with (go_at_call 42; refine (HC.out _).mono ?_; rintro e w1 hp; rw [HR.out] at hp; obtain ⟨b, rfl, hb1, hn1⟩ := hp.some; clear hp; obtain ⟨kp, n, kc0, A, hc5, hkl, hkc, hkv, hks⟩ := hn1.kids; have HKV := hid hkv; have HKS := hid hks; have HKL := hid hkl; have HB := hid hb1; have hs1 := hb1.size; clear hkv hks hkl hn1 hb1)
    have hn4 : n ≤ 4 := by rw [← HKL.out]; exact HM.out
    go_loopw [6, 21] (fun v u wr => ∃ (i kc : Nat) (q : Option Addr), i ≤ n ∧ u = .int .i64 (i : Int) ∧ v = .slice q i kc ∧ wr.ownsRow w1.heap.size 9 1 (.slice q i kc) i (((m.ks.map Tm.txt).take i).map Value.string) ∧ Below w1.heap.size w1 wr) (fun _ u _ => n - (intOf u).toNat)
    case atStart => exact ⟨0, 0, none, Nat.zero_le _, rfl, rfl, World.ownsRow_nil _ _ _ _, Below.refl _ _⟩
    case round =>
      obtain ⟨i, kc, q, hi, rfl, rfl, hown, hbel⟩ := hrel
      have hz := hbel.size
      have HOWN := hid hown
      have HBEL := hid hbel
      clear hown hbel
      by_cases hlt : i < n
      · obtain ⟨x, hx⟩ : ∃ x, m.ks[i]? = some x := ⟨_, List.getElem?_eq_getElem (by rw [HKL.out]; exact hlt)⟩
        obtain ⟨g, rfl, _, hc⟩ := HKV.out i _ (ptrs_get A hlt)
        have hc' := (HBEL.out.cell (p := ⟨g, i, none⟩) (World.block_lt_of_cell? w1 _ hc)).trans hc
        have HX := hid (show ((m.ks.map Tm.txt).take (i + 1)).map Value.string = ((m.ks.map Tm.txt).take i).map Value.string ++ [.string ⟨x.write.toArray⟩] by rw [List.take_add_one, List.getElem?_map, hx, List.map_append]; rfl)
        have HCT := hid (HT.out w1 _ (A i) i x hx (HKS.out i x hx) wr (Kept.of_below HBEL.out (Nat.le_refl _)) HBEL.out.size)
        obtain ⟨X, hX⟩ : ∃ X : ByteArray, ⟨x.write.toArray⟩ = X := ⟨_, rfl⟩
        rw [hX] at HX HCT
        clear hc hx hX
        go_wp2_with (first | (at_builtin; have s5 := hb5.size; refine wpList_append_at _ rfl _ _ 25 rfl w1.heap.size 9 i0 (.string ByteArray.empty) 1 16 Tryz.underlying25 hi0 hz0 hz1 hz2 rfl (by decide) (.slice q i kc) i _ rfl ((ownsRow_under HOWN.out hb5).alloc _) ⟨w5.heap.size, 0, none⟩ 1 1 [.string X] rfl rfl (cells_new1 _ _ _ _ rfl) (by intro u hu; simp at hu; subst hu; rfl) (by decide) (by unfold maxLen; omega) (by omega) (by simp; omega) ?_; intro v' w6 hown2 hg2 hw2 hv2; obtain ⟨g2, kc2, rfl⟩ := hv2; have HG := hid hg2; have HO := hid hown2; clear hg2 hown2 hw2) | (go_at_call 46; refine HCT.out.mono ?_; rintro e w5 ⟨rfl, hb5⟩))
        go_roundw
        case rel =>
          refine ⟨i + 1, kc2, some ⟨g2, 0, none⟩, by omega, by go_num, rfl, by rw [HX.out]; exact HO.out, ?_⟩
          exact ((HBEL.out.trans (hb5.mono hz)).alloc (by omega) _).grown HG.out (by simp; omega) (fun k e => (HOWN.out.lt k e).1)
        case measure => simp [intOf]; omega
      · have hin : i = n := by omega
        subst hin
        have HF := hid (show (m.ks.map Tm.txt).take i = m.ks.map Tm.txt from List.take_of_length_le (by rw [List.length_map, HKL.out]; exact Nat.le_refl _))
        have HL := hid (show (m.ks.map Tm.txt).length = i by rw [List.length_map, HKL.out])
        go_wp2_with fail
        go_ret2
        refine ListPost.of (l := m.ks.map Tm.txt) (b := true) rfl rfl ⟨⟨q, kc, ?_, ?_⟩, HB.out.trans (HBEL.out.mono (by omega))⟩
        · rw [HL.out]; rfl
        · rw [HL.out]; have := own_base HOWN.out hs1; rw [HF.out] at this; exact this
end Go.Proofs.YthpcmglnooemaaaGreatDoor

namespace Go.Proofs.YthpcmglnooemaaaGreatDoor
open Go.RowKit

set_option maxRecDepth 100000 in
set_option maxHeartbeats 2000000 in
theorem specTermKids_any (s : ByteArray) (hs : s.size ≤ 400000000) (w : World) : Calls Tryz.prog 23 #[.string s] w (ListPost (kidsOf s) w) := by
  have HC := hid (fun W => l2Term_any s hs W)
  cases ht : termTree s with
  | none =>
    rw [kidsOf_none (termTree_none ht)]
    have HT := hid ht
    clear ht
    go_enter Tryz.func23, Tryz.ntmps23
    go_wp2_with (go_at_call 44; refine (HC.out _).mono ?_; rintro e w1 hp; rw [HT.out] at hp; obtain ⟨pa, pp, pl, pc, rfl, hpl, hb1⟩ := hp.none; clear hp; have HO := hid (own_empty (w1.alloc (.cells #[.string pa, .slice pp pl pc] 49)) w.heap.size (by have := hb1.size; simp; omega)))
    refine wp_loop_rounds 1 ?_
    rw [rounds_succ]
    by_cases h1 : (1 : Int) < (pl : Int)
    all_goals
      go_wp2_with fail
      go_ret2
      have s1 := hb1.size
      exact ⟨⟨some ⟨w1.heap.size + 1, 0, none⟩, 0, rfl, by simpa using HO.out⟩, (hb1.alloc s1 _).alloc (by simp; omega) _⟩
  | some t =>
    obtain ⟨hpt, hso, hsz, m, hm, htm⟩ := termTree_some ht
    rw [kidsOf_some hm, tm_ktx t [] m htm]
    cases t with
    | atom x =>
      have HT := hid ht
      clear ht hpt hso hsz hm htm
      go_enter Tryz.func23, Tryz.ntmps23
      go_wp2_with (go_at_call 44; refine (HC.out _).mono ?_; rintro e w1 hp; rw [HT.out] at hp; obtain ⟨pa, pp, pl, pc, rfl, hb1, htr⟩ := hp.some; clear hp; obtain ⟨rfl, rfl, rfl, rfl, _⟩ := htr.atom_inv; clear htr; have HO := hid (own_empty (w1.alloc (.cells #[.string pa, .slice none 0 0] 49)) w.heap.size (by have := hb1.size; simp; omega)))
      refine wp_loop_rounds 1 ?_
      rw [rounds_succ]
      go_wp2_with fail
      go_ret2
      have s1 := hb1.size
      rw [Tree.ktx]
      exact ⟨⟨some ⟨w1.heap.size + 1, 0, none⟩, 0, rfl, by simpa using HO.out⟩, (hb1.alloc s1 _).alloc (by simp; omega) _⟩
    | node ps =>
      obtain ⟨q, qs, rfl⟩ : ∃ q qs, ps = q :: qs := by
        cases ps with
        | nil => rw [Tree.tm] at htm; simp at htm
        | cons q qs => exact ⟨q, qs, rfl⟩
      have hsm := parse_small hpt
      have hwt := parse_wt hpt
      obtain ⟨_, hsl, _⟩ := wf_node hso
      have h4 := shape_four q.text.toList
      have HWL := hid (fun (i : Nat) (p : Tree) (hp : (q :: qs)[i]? = some p) => (show p.write.length ≤ 12000 ∧ p.wt ≤ 12000 from by
        have h1 := join_part (q :: qs) i p hp
        have h2 := wt_part (q :: qs) i p hp
        rw [write_node] at hsm
        rw [Tree.wt] at hwt
        simp at hsm
        omega))
      have HI := hid (fun b n cap i a c W h0 hn hc => l2Inner_any q b n cap i a c W h0 hn hc)
      rw [Tree.ktx]
      have HL4 := hid (ktxs_length (shape q.text.toList) qs)
      obtain ⟨cs, hcs⟩ : ∃ cs, shape q.text.toList = cs := ⟨_, rfl⟩
      rw [hcs] at hsl h4 HI HL4 ⊢
      obtain ⟨R, hR⟩ : ∃ R, Tree.ktxs cs qs = R := ⟨_, rfl⟩
      rw [hR]
      obtain ⟨n, hn⟩ : ∃ n, qs.length = n := ⟨_, rfl⟩
      have HN := hid hn
      have HSL := hid (hsl.trans hn)
      have hn4 : n ≤ 4 := by omega
      have HR := hid hR
      have HT := hid ht
      clear ht hpt hso hsz hm htm hsm hwt hsl h4 hcs hR hn
      obtain ⟨i0, hi0, hz0, hz1, hz2⟩ := info_parts Tryz.infoStr
      go_enter Tryz.func23, Tryz.ntmps23
      go_wp2_with (go_at_call 44; refine (HC.out _).mono ?_; rintro e w1 hp; rw [HT.out] at hp; obtain ⟨pa, pp, pl, cap, rfl, hb1, htr⟩ := hp.some; clear hp; go_loud (obtain ⟨b, A, rfl, rfl, hpl, _, _, _, hA, hB, hps⟩ := htr.node_inv; rw [List.length_cons, HN.out] at hpl hA hB; have hN1 : n < pl := (by omega); have hN2 : pl ≤ n + 1 := (by omega); clear hpl; obtain ⟨W2, hW2⟩ : ∃ W2, W2 = (w1.alloc (.cells #[.string ByteArray.empty, .slice (some ⟨b, 0, none⟩) pl cap] 49)).alloc (.cells #[] 9) := ⟨_, rfl⟩; have hbw : Below w1.heap.size w1 W2 := (by rw [hW2]; exact ((Below.refl _ _).alloc (Nat.le_refl _) _).alloc (by simp) _); have hsW : W2.heap.size = w1.heap.size + 2 := (by rw [hW2]; simp); have ho := own_empty (w1.alloc (.cells #[.string ByteArray.empty, .slice (some ⟨b, 0, none⟩) pl cap] 49)) (w1.heap.size + 1) (by simp); rw [← hW2] at ho; have hbx := heap_new w1 (.cells #[.string ByteArray.empty, .slice (some ⟨b, 0, none⟩) pl cap] 49) w1.heap.size rfl; have hbx2 := (heap_alloc_old (w1.alloc (.cells #[.string ByteArray.empty, .slice (some ⟨b, 0, none⟩) pl cap] 49)) (.cells #[] 9) (r := w1.heap.size) (by simp)).trans hbx; rw [← hW2] at hbx2; have HW := hid hW2; have HBX := hid hbx2; have HBW := hid hbw; have HO := hid ho; have HA := hid hA; have HB := hid hB; have HPS := hid hps; have HB1 := hid hb1; have hs1 := hb1.size; clear hW2 hbw ho hbx hbx2 hA hB hps htr hb1))
      rw [← HW.out]
      go_loopw [6, 7] (fun v u wr => ∃ (i m c : Nat) (q : Option Addr) (L1 : List ByteArray), i ≤ n ∧ m ≤ i ∧ u = .int .i64 ((i : Int) + 1) ∧ v = .slice q m c ∧ wr.ownsRow (w1.heap.size + 1) 9 1 (.slice q m c) m (L1.map Value.string) ∧ Below (w1.heap.size + 1) W2 wr ∧
        Hid (L1.length = m ∧ L1 ++ Tree.ktxs (cs.drop i) (qs.drop i) = R)) (fun _ u _ => pl - (intOf u).toNat)
      case atStart => exact ⟨0, 0, 0, some ⟨w1.heap.size + 1, 0, none⟩, [], Nat.zero_le _, Nat.le_refl _, rfl, rfl, by simpa using HO.out, Below.refl _ _, hid ⟨rfl, by simpa using HR.out⟩⟩
      case round =>
        obtain ⟨i, m2, c, q1, L1, hi, hmi, rfl, rfl, hown, hbel, hL⟩ := hrel
        have hz := hbel.size
        have kc2 := cells_of_pair ((hbel.block w1.heap.size (by omega)).trans HBX.out)
        have hbw1 := HBW.out.trans (hbel.mono (by omega))
        have kw : Kept w1 wr := Kept.of_below hbw1 (Nat.le_refl _)
        have hwr := hbw1.size
        have HOWN := hid hown
        have HBEL := hid hbel
        have KW := hid kw
        clear hown hbel hbw1
        by_cases hlt : i < n
        · obtain ⟨p, hp⟩ : ∃ p, qs[i]? = some p := ⟨_, List.getElem?_eq_getElem (by rw [HN.out]; exact hlt)⟩
          obtain ⟨d, hcc⟩ : ∃ d, cs[i]? = some d := ⟨_, List.getElem?_eq_getElem (by rw [HSL.out]; exact hlt)⟩
          have d2 : (i : Int) + 1 < (pl : Int) := by omega
          have d2' : i + 1 < pl := by omega
          have hst := ktxs_step hcc hp
          have CI := hid (HI.out b pl cap i ByteArray.empty d wr (kw.cell (by have := HA.out 0 (by omega); rw [((HPS.out 0 q rfl).text)] at this; simpa using this)) (by omega) hcc)
          have CA := hid (fun W (hk : Kept wr W) => hk.cell (kw.cell (HA.out (i + 1) (by omega))))
          have CB2 := hid (fun W (hk : Kept wr W) => hk.cell (kw.cell (HB.out (i + 1) (by omega))))
          have KBX := hid (fun W (hk : Kept wr W) => (show W.cell? ⟨w1.heap.size, 0, none⟩ = some (.string ByteArray.empty) ∧ W.cell? ⟨w1.heap.size, 1, none⟩ = some (.slice (some ⟨b, 0, none⟩) pl cap) from ⟨hk.cell kc2.1, hk.cell kc2.2.1⟩))
          cases hK : d.isK with
          | false =>
            rw [hK] at CI hst
            have HL2 := hid (show L1.length = m2 ∧ L1 ++ Tree.ktxs (cs.drop (i + 1)) (qs.drop (i + 1)) = R by
              have := hL.out; rw [hst] at this; simpa using this)
            clear hst hL hp hcc kw hK
            go_wp2_with (go_at_call 53; refine CI.out.mono ?_; rintro e w3 ⟨rfl, hb3⟩)
            go_roundw
            case rel => exact ⟨i + 1, m2, c, q1, L1, by omega, by omega, by go_num, rfl, ownsRow_under HOWN.out hb3, HBEL.out.trans (hb3.mono (by omega)), HL2⟩
            case measure => simp [intOf]; omega
          | true =>
            rw [hK] at CI hst
            have hqp : (q :: qs)[i + 1]? = some p := by simpa using hp
            obtain ⟨X, hX⟩ : ∃ X, p.txt = X := ⟨_, rfl⟩
            have HC1 := hid (fun W (hk : Kept wr W) (hs : wr.heap.size ≤ W.heap.size) => l1Text_any (HPS.out (i + 1) p hqp) (HWL.out _ _ hqp).1 (HWL.out _ _ hqp).2 W (kw.trans hk hwr) (by omega))
            have HL2 := hid (show (L1 ++ [X]).length = m2 + 1 ∧ (L1 ++ [X]) ++ Tree.ktxs (cs.drop (i + 1)) (qs.drop (i + 1)) = R by
              have := hL.out; rw [hst, hX] at this; simpa using this)
            rw [hX] at HC1
            clear hst hL hp hcc kw hK hqp hX
            have ca := CA.out wr (Kept.refl _)
            have cb := CB2.out wr (Kept.refl _)
            go_wp2_with (first
              | (at_builtin; have s4 := hb4.size; refine wpList_append_at _ rfl _ _ 25 rfl (w1.heap.size + 1) 9 i0 (.string ByteArray.empty) 1 16 Tryz.underlying25 hi0 hz0 hz1 hz2 rfl (by decide) (.slice q1 m2 c) m2 _ rfl ((ownsRow_under HOWN.out (HB3.out.trans (hb4.mono s3))).alloc _) ⟨w4.heap.size, 0, none⟩ 1 1 [.string X] rfl rfl (cells_new1 _ _ _ _ rfl) (by intro u hu; simp at hu; subst hu; rfl) (by decide) (by unfold maxLen; omega) (by omega) (by simp; omega) ?_; intro v' w6 hown2 hg2 hw2 hv2; obtain ⟨g2, kc3, rfl⟩ := hv2; have HG := hid hg2; have HO6 := hid hown2; clear hg2 hown2 hw2)
              | (go_at_call 53; refine CI.out.mono ?_; rintro e w3 ⟨rfl, hb3⟩; have s3 := hb3.size; have K3 := hid (Kept.of_below hb3 (Nat.le_refl _)); have HB3 := hid hb3; have kb3 := KBX.out _ K3.out; have ca3 := CA.out _ K3.out; have cb3 := CB2.out _ K3.out; clear hb3)
              | (go_at_call 54; refine (HC1.out _ K3.out s3).mono ?_; rintro e w4 ⟨rfl, hb4⟩))
            go_roundw
            case rel =>
              have s4 := hb4.size
              refine ⟨i + 1, m2 + 1, kc3, some ⟨g2, 0, none⟩, L1 ++ [X], by omega, by omega, by go_num, rfl, by rw [List.map_append]; exact HO6.out, ?_, HL2⟩
              exact ((HBEL.out.trans ((HB3.out.trans (hb4.mono s3)).mono (by omega))).alloc (by omega) _).grown HG.out (by simp; omega) (fun k e => (HOWN.out.lt k e).1)
            case measure => simp [intOf]; omega
        · have he : R = L1 := by
            have := hL.out.2
            rw [List.drop_of_length_le (l := cs) (by rw [HSL.out]; omega)] at this
            simpa [Tree.ktxs] using this.symm
          have HE := hid he
          have HLL1 := hid hL.out.1
          clear he hL kw
          go_wp2_with fail
          go_ret2
          refine ListPost.of (l := R) (b := true) rfl rfl ⟨⟨q1, c, ?_, ?_⟩, ?_⟩
          · rw [HE.out, HLL1.out]; rfl
          · rw [HE.out, HLL1.out]; exact own_base HOWN.out (by omega)
          · exact HB1.out.trans ((HBW.out.trans (HBEL.out.mono (by omega))).mono hs1)

end Go.Proofs.YthpcmglnooemaaaGreatDoor

namespace Go.Proofs.YthpcmglnooemaaaGreatDoor
open Go.RowKit

set_option maxRecDepth 100000 in
set_option maxHeartbeats 4000000 in
theorem lawTermKids (s : ByteArray) (hs : s.size ≤ 9223372036854775807) (w : World) : Calls Tryz.prog 11 #[.string s] w fun e w' => e = .returned (.bool true) ∧ Below w.heap.size w w' := by
  by_cases h : s.size ≤ 1048576
  · have HA := hid (fun W => specTermKids_any s (by omega) W)
    have HB := hid (fun W => implTermKids_any s (by omega) W)
    have hk2 := kids_bound s
    obtain ⟨d, hd⟩ : ∃ d, (kidsOf s).isSome = d := ⟨_, rfl⟩
    obtain ⟨L, hL⟩ : ∃ L, (kidsOf s).getD [] = L := ⟨_, rfl⟩
    obtain ⟨n, hn⟩ : ∃ n, L.length = n := ⟨_, rfl⟩
    rw [hL, hn] at hk2
    have HP : Hid (∀ W e W', ListPost (kidsOf s) W e W' → (∃ q c, e = .returned (.tuple #[.slice q n c, .bool d]) ∧ W'.ownsRow W.heap.size 9 1 (.slice q n c) n (L.map Value.string)) ∧ Below W.heap.size W W') := by
      intro W e W' hp
      unfold ListPost at hp
      rw [hL, hn, hd] at hp
      exact hp
    have HE : Hid (∀ (p q : Option Addr) (c c' : Nat) (W : World), Vals W p (L.map .string) → Vals W q (L.map .string) → Calls Tryz.prog 37 #[.slice p n c, .slice q n c'] W fun e w' => e = .returned (.bool true) ∧ Below W.heap.size W w') :=
      fun p q c c' W hp hq => eqStrings_same L p q n c c' W hn (by omega) hp hq
    clear hd hL hn
    go_enter Tryz.func11, Tryz.ntmps11
    have hq : (d != d) = false := by simp
    go_wp2_with (first
      | (go_at_call 39; have _ := V6; have s8 := hb7.size; refine (heldStrings_own q2 n c2 1 _ (by decide) (by omega) (vals_below V4.out ((hb5.trans (hb6.mono s5)).trans (hb7.mono (by omega))) hu4)).mono ?_; rintro e w8 ⟨rfl, hb8⟩)
      | (go_at_call 37; have _ := V6; refine (HE.out _ _ _ _ _ V6.out V1c.out).mono ?_; rintro e w7 ⟨rfl, hb7⟩)
      | (go_at_call 15; have _ := V4; refine (HB.out _).mono ?_; rintro e w6 hp; obtain ⟨⟨q6, c6, rfl, ho6⟩, hb6⟩ := HP.out _ _ _ hp; clear hp; have s6 := hb6.size; have V6 := hid (vals_str ho6); clear ho6; have V1c := hid (vals_below V1.out (hb2.trans ((hb3.mono s2).trans (hb4.trans ((hb5.mono (by omega)).trans (hb6.mono (by omega)))))) U1.out))
      | (go_at_call 39; refine (heldStrings_own q2 n c2 1 _ (by decide) (by omega) V4.out).mono ?_; rintro e w5 ⟨rfl, hb5⟩; have s5 := hb5.size)
      | (go_at_call 37; refine (HE.out _ _ _ _ _ V2.out V1b.out).mono ?_; rintro e w3 ⟨rfl, hb3⟩; have s3 := hb3.size)
      | (go_at_call 15; refine (HB.out _).mono ?_; rintro e w2 hp; obtain ⟨⟨q2, c2, rfl, ho2⟩, hb2⟩ := HP.out _ _ _ hp; clear hp; have s2 := hb2.size; have V2 := hid (vals_str ho2); have O2 := hid ho2; clear ho2; have V1b := hid (vals_below V1.out hb2 U1.out))
      | (go_at_call 38; refine (mark_any (by omega) (ownsRow_under O2.out hb3) (by omega)).mono ?_; rintro e w4 ⟨rfl, hv4, hb4, hu4⟩; have s4 := hb4.size; have V4 := hid hv4; clear hv4)
      | (go_at_call 23; refine (HA.out _).mono ?_; rintro e w1 hp; obtain ⟨⟨q1, c1, rfl, ho1⟩, hb1⟩ := HP.out _ _ _ hp; clear hp; have s1 := hb1.size; have V1 := hid (vals_str ho1); have U1 := hid (own_under ho1); clear ho1))
    go_ret
    have s7 := hb7.size
    exact ⟨rfl, hb1.trans ((hb2.mono (by omega)).trans ((hb3.mono (by omega)).trans ((hb4.mono (by omega)).trans ((hb5.mono (by omega)).trans ((hb6.mono (by omega)).trans ((hb7.mono (by omega)).trans (hb8.mono (by omega))))))))⟩
  · have h2 : 1048576 < s.size := by omega
    clear h
    go_enter Tryz.func11, Tryz.ntmps11
    go_wp2
    go_ret
    exact ⟨rfl, Below.refl _ _⟩

end Go.Proofs.YthpcmglnooemaaaGreatDoor
