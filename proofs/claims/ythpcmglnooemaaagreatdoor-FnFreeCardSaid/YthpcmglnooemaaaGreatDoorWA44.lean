/- Merged: TmKids, LtP, LtK, LtU, TmKidsLI, LtC. -/
import Derived.Deep.RegionWith
import Derived.Test.YthpcmglnooemaaaGreatDoorWA23
import Derived.Test.YthpcmglnooemaaaGreatDoorWA15
import Derived.Test.YthpcmglnooemaaaGreatDoorWA41
import Derived.Test.YthpcmglnooemaaaGreatDoorWA30
import Derived.Test.YthpcmglnooemaaaGreatDoorWA7
import Derived.Test.YthpcmglnooemaaaGreatDoorWASMarkT
import Derived.Test.YthpcmglnooemaaaGreatDoorWA0
import Derived.Test.YthpcmglnooemaaaGreatDoorWA28
import Derived.Test.YthpcmglnooemaaaGreatDoorWA32
namespace Go.Proofs.YthpcmglnooemaaaGreatDoor
open Go.RowKit

def Tm.ks : Tm → List Tm
  | .mk _ _ _ _ _ ks => ks
/-- A term's text. -/
def Tm.txt (m : Tm) : ByteArray := ⟨m.write.toArray⟩
def Tree.ktxs : List Sg → List Tree → List ByteArray
  | [], _ => []
  | _ :: _, [] => []
  | c :: cs, p :: ps => (if c.isK = true then [p.txt] else []) ++ Tree.ktxs cs ps
/-- The texts of the terms that are parts of a tree. -/
def Tree.ktx : Tree → List ByteArray
  | .atom _ => []
  | .node [] => []
  | .node (h :: ps) => Tree.ktxs (shape h.text.toList) ps
theorem tm_txt {t : Tree} {ar : List ByteArray} {m : Tm} (h : t.tm ar = some m) : m.txt = t.txt := by rw [Tm.txt, Tree.txt, tm_write t ar m h]
theorem parts_ktx (ar : List ByteArray) : ∀ (cs : List Sg) (ps : List Tree) (st st' : St), cs.length = ps.length →
    Tree.parts ar cs ps st = some st' → st'.kids.map Tm.txt = st.kids.map Tm.txt ++ Tree.ktxs cs ps
  | [], [], st, st', _, h => by simp [Tree.parts] at h; subst h; simp [Tree.ktxs]
  | c :: cs, p :: ps, st, st', hl, h => by
    have hl' : cs.length = ps.length := by simpa using hl
    have kid : ∀ v, c.isK = true → ∀ st1, addK v (p.tm (ar ++ st.binds)) st = some st1 → Tree.parts ar cs ps st1 = some st' → st'.kids.map Tm.txt = st.kids.map Tm.txt ++ Tree.ktxs (c :: cs) (p :: ps) := by
      intro v hk st1 h1 h2
      obtain ⟨m, ht, h3⟩ := addK_inv h1
      rw [parts_ktx ar cs ps st1 st' hl' h2, h3, Tree.ktxs, if_pos hk]
      simp [tm_txt ht]
    have other : c.isK = false → ∀ st1, st1.kids = st.kids → Tree.parts ar cs ps st1 = some st' → st'.kids.map Tm.txt = st.kids.map Tm.txt ++ Tree.ktxs (c :: cs) (p :: ps) := by
      intro hk st1 h1 h2
      rw [parts_ktx ar cs ps st1 st' hl' h2, h1, Tree.ktxs, if_neg (by rw [hk]; simp)]
      simp
    cases c with
    | X =>
      rw [Tree.parts] at h
      cases h1 : addX p.text st with
      | none => rw [h1] at h; simp at h
      | some st1 => rw [h1] at h; exact other rfl st1 (by rw [(addX_inv h1).2]) h
    | A =>
      rw [Tree.parts] at h
      cases h1 : addT true p st with
      | none => rw [h1] at h; simp at h
      | some st1 => rw [h1] at h; obtain ⟨ty, _, h2⟩ := addT_inv h1; exact other rfl st1 (by rw [h2]) h
    | C =>
      rw [Tree.parts] at h
      cases h1 : addT false p st with
      | none => rw [h1] at h; simp at h
      | some st1 => rw [h1] at h; obtain ⟨ty, _, h2⟩ := addT_inv h1; exact other rfl st1 (by rw [h2]) h
    | V =>
      rw [Tree.parts] at h
      cases h1 : addK true (p.tm (ar ++ st.binds)) st with
      | none => rw [h1] at h; simp at h
      | some st1 => rw [h1] at h; exact kid true rfl st1 h1 h
    | M =>
      rw [Tree.parts] at h
      cases h1 : addK false (p.tm (ar ++ st.binds)) st with
      | none => rw [h1] at h; simp at h
      | some st1 => rw [h1] at h; exact kid false rfl st1 h1 h
theorem tm_ktx (t : Tree) (ar : List ByteArray) (m : Tm) (h : t.tm ar = some m) : m.ks.map Tm.txt = t.ktx := by
  match t with
  | .atom s =>
    rw [Tree.tm, atomTm] at h
    split at h
    · simp at h; subst h; rfl
    · split at h
      · simp at h; subst h; rfl
      · simp at h
  | .node [] => rw [Tree.tm] at h; simp at h
  | .node (q :: ps) =>
    obtain ⟨st, h1, h2, h3, rfl⟩ := tm_node h
    have := parts_ktx ar _ ps St.none st h2 h3
    rw [Tree.ktx, Tm.ks, this]
    simp [St.none]
theorem ktxs_mem : ∀ (cs : List Sg) (ps : List Tree) (x : ByteArray), x ∈ Tree.ktxs cs ps → ∃ p ∈ ps, x = p.txt
  | [], _, x, h => by simp [Tree.ktxs] at h
  | _ :: _, [], x, h => by simp [Tree.ktxs] at h
  | c :: cs, p :: ps, x, h => by
    rw [Tree.ktxs, List.mem_append] at h
    rcases h with h | h
    · split at h
      · exact ⟨p, List.mem_cons_self .., by simpa using h⟩
      · simp at h
    · obtain ⟨q, hq, e⟩ := ktxs_mem cs ps x h
      exact ⟨q, List.mem_cons_of_mem _ hq, e⟩
theorem ktxs_length : ∀ (cs : List Sg) (ps : List Tree), (Tree.ktxs cs ps).length ≤ cs.length
  | [], _ => by simp [Tree.ktxs]
  | _ :: _, [] => by simp [Tree.ktxs]
  | c :: cs, p :: ps => by
    rw [Tree.ktxs, List.length_append, List.length_cons]
    have := ktxs_length cs ps
    split <;> simp <;> omega
theorem ktx_length (t : Tree) : t.ktx.length ≤ 4 := by
  match t with
  | .atom _ => simp [Tree.ktx]
  | .node [] => simp [Tree.ktx]
  | .node (q :: ps) => rw [Tree.ktx]; have := ktxs_length (shape q.text.toList) ps; have := shape_four q.text.toList; omega
theorem ktx_mem {t : Tree} {x : ByteArray} (h : x ∈ t.ktx) : x.size ≤ t.write.length := by
  match t with
  | .atom _ => simp [Tree.ktx] at h
  | .node [] => simp [Tree.ktx] at h
  | .node (q :: ps) =>
    rw [Tree.ktx] at h
    obtain ⟨p, hp, rfl⟩ := ktxs_mem _ _ x h
    obtain ⟨i, hi, rfl⟩ := List.getElem_of_mem hp
    have := join_part (q :: ps) (i + 1) ps[i] (by simp [hi])
    rw [txt_size, write_node]; simp; omega
theorem ktxs_step {cs : List Sg} {qs : List Tree} {j : Nat} {c : Sg} {p : Tree} (hc : cs[j]? = some c) (hp : qs[j]? = some p) :
    Tree.ktxs (cs.drop j) (qs.drop j) = (if c.isK = true then [p.txt] else []) ++ Tree.ktxs (cs.drop (j + 1)) (qs.drop (j + 1)) := by
  rw [drop_at hc, drop_at hp, Tree.ktxs]
theorem NIn.kids {w : World} {S : Nat → Prop} {m : Tm} {b : Nat} (h : NIn w S m b) : ∃ (kp : Option Addr) (kl kc : Nat) (A : Nat → Nat), w.cell? ⟨b, 5, none⟩ = some (.slice kp kl kc) ∧ m.ks.length = kl ∧ kl ≤ kc ∧ RIn w S kp (ptrs A kl) ∧ ∀ i k, m.ks[i]? = some k → NIn w S k (A i) := by
  cases h with
  | mk hd a d bs ty ks b bp bl bc kp kl kc A hS0 hb0 hbl hkl hbn hbv hkv hks =>
    exact ⟨kp, kl, kc, A, (cells_of_six hb0).2.2.2.2.2.1, hkl, hbn.2, hkv, hks⟩
theorem Tm.fits_ks {m : Tm} (h : m.fit) : Tm.fits m.ks := by
  cases m with
  | mk hd a d bs ty ks => rw [Tm.fit] at h; exact h.2
/-- What TermKids answers. -/
def kidsOf (s : ByteArray) : Option (List ByteArray) := (readTm s).map fun m => m.ks.map Tm.txt
theorem kidsOf_none {s : ByteArray} (h : readTm s = none) : kidsOf s = none := by rw [kidsOf, h]; rfl
theorem kidsOf_some {s : ByteArray} {m : Tm} (h : readTm s = some m) : kidsOf s = some (m.ks.map Tm.txt) := by rw [kidsOf, h]; rfl
theorem kids_bound (s : ByteArray) : ((kidsOf s).getD []).length ≤ 4 := by
  unfold kidsOf
  cases hr : readTm s with
  | none => simp
  | some m =>
    obtain ⟨t, _, htm, _, _⟩ := readTm_inv hr
    have h1 := ktx_length t
    rw [← tm_ktx t [] m htm] at h1
    simpa using h1

set_option maxRecDepth 100000 in
set_option maxHeartbeats 2000000 in
theorem implTermKids_any (s : ByteArray) (hs : s.size ≤ 400000000) (w : World) : Calls Tryz.prog 15 #[.string s] w (ListPost (kidsOf s) w) := by
  have HC := hid (fun W => readTerm_any s hs W)
  cases hr : readTm s with
  | none =>
    have HR := hid hr
    rw [kidsOf_none hr]
    clear hr
    go_enter Tryz.func15, Tryz.ntmps15
    go_wp2_with (go_at_call 42; refine (HC.out _).mono ?_; rintro e w1 hp; rw [HR.out] at hp; obtain ⟨rfl, hb1⟩ := hp.none; clear hp)
    go_ret2
    exact ⟨⟨none, 0, rfl, World.ownsRow_nil _ _ _ _⟩, hb1⟩
  | some m =>
    have HR := hid hr
    obtain ⟨t, hpt, htm, _, _⟩ := readTm_inv hr
    rw [kidsOf_some hr]
    have hfit := Tm.fits_ks (tm_fit t [] m htm)
    have hkx := tm_ktx t [] m htm
    have hsm := parse_small hpt
    have hkl4 : m.ks.length ≤ 4 := by have := ktx_length t; rw [← hkx] at this; simpa using this
    have hws : ∀ (i : Nat) (k : Tm), m.ks[i]? = some k → k.write.length ≤ 12000 := by
      intro i k hk
      have h1 : k.txt ∈ t.ktx := by rw [← hkx]; exact List.mem_map_of_mem (List.mem_of_getElem? hk)
      have h2 := ktx_mem h1
      simp [Tm.txt, ByteArray.size] at h2
      omega
    have HT := hid (fun (w0 : World) (S : Nat → Prop) (b i : Nat) (k : Tm) (hk : m.ks[i]? = some k) (hn : NIn w0 S k b) (W : World) (hkk : Kept w0 W) (hw : w0.heap.size ≤ W.heap.size) => text_any hn (tmfits_get m.ks i k hfit hk) (hws i k hk) W hkk hw)
    have HM := hid hkl4
    clear hr hpt htm hfit hkx hsm hws hkl4
    obtain ⟨i0, hi0, hz0, hz1, hz2⟩ := info_parts Tryz.infoStr
    go_enter Tryz.func15, Tryz.ntmps15
    go_wp2_with (go_at_call 42; refine (HC.out _).mono ?_; rintro e w1 hp; rw [HR.out] at hp; obtain ⟨b, rfl, hb1, hn1⟩ := hp.some; clear hp; obtain ⟨kp, n, kc0, A, hc5, hkl, hkc, hkv, hks⟩ := hn1.kids; have HKV := hid hkv; have HKS := hid hks; have HKL := hid hkl; have HB := hid hb1; have hs1 := hb1.size; clear hkv hks hkl hn1 hb1)
    have hn4 : n ≤ 4 := by rw [← HKL.out]; exact HM.out
    go_loopw [6, 21] (fun v u wr => ∃ (i kc : Nat) (q : Option Addr), i ≤ n ∧ u = .int .i64 (i : Int) ∧ v = .slice q i kc ∧ wr.ownsRow w1.heap.size 9 1 (.slice q i kc) i (((m.ks.map Tm.txt).take i).map Value.string) ∧ Below w1.heap.size w1 wr) (fun _ u _ => n - (intOf u).toNat)
    case atStart => exact ⟨0, 0, none, Nat.zero_le _, rfl, rfl, World.ownsRow_nil _ _ _ _, Below.refl _ _⟩
    case round =>
      obtain ⟨i, kc, q, hi, rfl, rfl, hown, hbel⟩ := hrel
      have hz := hbel.size
      have HOWN := hid hown
      have HBEL := hid hbel
      clear hown hbel
      by_cases hlt : i < n
      · obtain ⟨x, hx⟩ : ∃ x, m.ks[i]? = some x := ⟨_, List.getElem?_eq_getElem (by rw [HKL.out]; exact hlt)⟩
        obtain ⟨g, rfl, _, hc⟩ := HKV.out i _ (ptrs_get A hlt)
        have hc' := (HBEL.out.cell (p := ⟨g, i, none⟩) (World.block_lt_of_cell? w1 _ hc)).trans hc
        have HX := hid (show ((m.ks.map Tm.txt).take (i + 1)).map Value.string = ((m.ks.map Tm.txt).take i).map Value.string ++ [.string ⟨x.write.toArray⟩] by rw [List.take_add_one, List.getElem?_map, hx, List.map_append]; rfl)
        have HCT := hid (HT.out w1 _ (A i) i x hx (HKS.out i x hx) wr (Kept.of_below HBEL.out (Nat.le_refl _)) HBEL.out.size)
        obtain ⟨X, hX⟩ : ∃ X : ByteArray, ⟨x.write.toArray⟩ = X := ⟨_, rfl⟩
        rw [hX] at HX HCT
        clear hc hx hX
        go_wp2_with (first | (at_builtin; have s5 := hb5.size; refine wpList_append_at _ rfl _ _ 25 rfl w1.heap.size 9 i0 (.string ByteArray.empty) 1 16 Tryz.underlying25 hi0 hz0 hz1 hz2 rfl (by decide) (.slice q i kc) i _ rfl ((ownsRow_under HOWN.out hb5).alloc _) ⟨w5.heap.size, 0, none⟩ 1 1 [.string X] rfl rfl (cells_new1 _ _ _ _ rfl) (by intro u hu; simp at hu; subst hu; rfl) (by decide) (by unfold maxLen; omega) (by omega) (by simp; omega) ?_; intro v' w6 hown2 hg2 hw2 hv2; obtain ⟨g2, kc2, rfl⟩ := hv2; have HG := hid hg2; have HO := hid hown2; clear hg2 hown2 hw2) | (go_at_call 46; refine HCT.out.mono ?_; rintro e w5 ⟨rfl, hb5⟩))
        go_roundw
        case rel =>
          refine ⟨i + 1, kc2, some ⟨g2, 0, none⟩, by omega, by go_num, rfl, by rw [HX.out]; exact HO.out, ?_⟩
          exact ((HBEL.out.trans (hb5.mono hz)).alloc (by omega) _).grown HG.out (by simp; omega) (fun k e => (HOWN.out.lt k e).1)
        case measure => simp [intOf]; omega
      · have hin : i = n := by omega
        subst hin
        have HF := hid (show (m.ks.map Tm.txt).take i = m.ks.map Tm.txt from List.take_of_length_le (by rw [List.length_map, HKL.out]; exact Nat.le_refl _))
        have HL := hid (show (m.ks.map Tm.txt).length = i by rw [List.length_map, HKL.out])
        go_wp2_with fail
        go_ret2
        refine ListPost.of (l := m.ks.map Tm.txt) (b := true) rfl rfl ⟨⟨q, kc, ?_, ?_⟩, HB.out.trans (HBEL.out.mono (by omega))⟩
        · rw [HL.out]; rfl
        · rw [HL.out]; have := own_base HOWN.out hs1; rw [HF.out] at this; exact this
end Go.Proofs.YthpcmglnooemaaaGreatDoor

namespace Go.Proofs.YthpcmglnooemaaaGreatDoor
open Go.RowKit

mutual
theorem free_sub {bd bd' : List ByteArray} (hb : ∀ s, hasB bd' s = true → hasB bd s = true) {x : ByteArray} : ∀ t : Tree, x ∈ t.free bd → x ∈ t.free bd'
  | .atom s, h => by
    rw [Tree.free] at h ⊢
    split at h
    · rename_i c
      rw [if_pos ⟨c.1, by
        cases e : hasB bd' s.toList with
        | false => rfl
        | true => rw [hb _ e] at c; exact absurd c.2 (by simp)⟩]
      exact h
    · simp at h
  | .node [], h => by rw [Tree.free] at h; simp at h
  | .node (q :: ps), h => by rw [Tree.free] at h ⊢; exact frees_sub hb _ _ ps h
theorem frees_sub {bd bd' : List ByteArray} (hb : ∀ s, hasB bd' s = true → hasB bd s = true) {x : ByteArray} (xs : List ByteArray) : ∀ (cs : List Sg) (ps : List Tree), x ∈ Tree.frees bd xs cs ps → x ∈ Tree.frees bd' xs cs ps
  | [], _, h => by rw [Tree.frees] at h; simp at h
  | _ :: _, [], h => by rw [Tree.frees] at h; simp at h
  | c :: cs, p :: ps, h => by
    rw [Tree.frees] at h ⊢
    rcases List.mem_append.1 h with h | h
    · refine List.mem_append_left _ ?_
      split at h
      · rename_i hk
        rw [if_pos hk]
        split at h
        · rename_i hc
          rw [if_pos hc]
          refine free_sub (fun s hs => ?_) p h
          have e1 : ∀ (a b : List ByteArray), hasB (a ++ b) s = (hasB a s || hasB b s) := fun a b => by unfold hasB; simp
          rw [e1] at hs ⊢
          simp only [Bool.or_eq_true] at hs ⊢
          exact hs.imp (hb s) id
        · rename_i hc
          rw [if_neg hc]
          exact free_sub hb p h
      · simp at h
    · exact List.mem_append_right _ (frees_sub hb xs cs ps h)
end
/-- Where a term's parts come from. -/
theorem parts_kid (ar : List ByteArray) : ∀ (cs : List Sg) (ps : List Tree) (st st' : St), Tree.parts ar cs ps st = some st' → ∀ k ∈ st'.kids, k ∈ st.kids ∨ ∃ p ∈ ps, ∃ bd, p.tm bd = some k
  | [], ps, st, st', h, k, hk => by simp [Tree.parts] at h; subst h; exact Or.inl hk
  | _ :: _, [], st, st', h, k, hk => by rw [Tree.parts] at h; simp at h
  | c :: cs, p :: ps, st, st', h, k, hk => by
    have go : ∀ st1, Tree.parts ar cs ps st1 = some st' → (∀ k ∈ st1.kids, k ∈ st.kids ∨ ∃ bd, p.tm bd = some k) → k ∈ st.kids ∨ ∃ q ∈ p :: ps, ∃ bd, q.tm bd = some k := by
      intro st1 h1 h2
      rcases parts_kid ar cs ps st1 st' h1 k hk with h3 | ⟨q, hq, h3⟩
      · rcases h2 k h3 with h4 | h4
        · exact Or.inl h4
        · exact Or.inr ⟨p, List.mem_cons_self .., h4⟩
      · exact Or.inr ⟨q, List.mem_cons_of_mem _ hq, h3⟩
    cases c with
    | X =>
      rw [Tree.parts] at h
      cases h1 : addX p.text st with
      | none => rw [h1] at h; simp at h
      | some st1 => rw [h1] at h; exact go st1 h (by rw [(addX_inv h1).2]; exact fun k hk => Or.inl hk)
    | A =>
      rw [Tree.parts] at h
      cases h1 : addT true p st with
      | none => rw [h1] at h; simp at h
      | some st1 => rw [h1] at h; obtain ⟨ty, _, h2⟩ := addT_inv h1; exact go st1 h (by rw [h2]; exact fun k hk => Or.inl hk)
    | C =>
      rw [Tree.parts] at h
      cases h1 : addT false p st with
      | none => rw [h1] at h; simp at h
      | some st1 => rw [h1] at h; obtain ⟨ty, _, h2⟩ := addT_inv h1; exact go st1 h (by rw [h2]; exact fun k hk => Or.inl hk)
    | V =>
      rw [Tree.parts] at h
      cases h1 : addK true (p.tm (ar ++ st.binds)) st with
      | none => rw [h1] at h; simp at h
      | some st1 =>
        rw [h1] at h
        obtain ⟨m, ht, h2⟩ := addK_inv h1
        refine go st1 h ?_
        rw [h2]
        intro k hk
        rcases List.mem_append.1 hk with hk | hk
        · exact Or.inl hk
        · simp at hk; subst hk; exact Or.inr ⟨_, ht⟩
    | M =>
      rw [Tree.parts] at h
      cases h1 : addK false (p.tm (ar ++ st.binds)) st with
      | none => rw [h1] at h; simp at h
      | some st1 =>
        rw [h1] at h
        obtain ⟨m, ht, h2⟩ := addK_inv h1
        refine go st1 h ?_
        rw [h2]
        intro k hk
        rcases List.mem_append.1 hk with hk | hk
        · exact Or.inl hk
        · simp at hk; subst hk; exact Or.inr ⟨_, ht⟩
theorem writes_part {q : Tree} {ps : List Tree} (h : q ∈ ps) : q.write.length ≤ (Tree.writes ps).length := by
  induction ps with
  | nil => cases h
  | cons p ps ih =>
    rw [Tree.writes]
    simp only [List.length_cons, List.length_append]
    rcases List.mem_cons.1 h with rfl | h
    · omega
    · have := ih h; omega
/-- A text that is read as a tree whose text it is. -/
theorem read_back {p : Tree} {k : Tm} (hw : p.wk) (hd : p.dp ≤ 101) (hl : p.write.length ≤ 12000) (hs : p.size ≤ 1500) (h : p.tm [] = some k) {s : ByteArray} (he : s.data.toList = p.write) : readTm s = some k := by
  unfold readTm
  rw [parse_back he hw hd hl]
  simp only
  rw [if_pos hs, h]
/-- What is so of a part of a term that is read: it is read again. -/
structure PartOk (k k' : Tm) : Prop where
  read : readTm k.txt = some k'
  size : k'.size = k.size
  val : k'.isVal = k.isVal
  free : ∀ x ∈ k.free, x ∈ k'.free
  len : k.txt.size ≤ 12000
theorem lt_kid {s : ByteArray} {m : Tm} (h : readTm s = some m) {k : Tm} (hk : k ∈ m.ks) : ∃ k', PartOk k k' := by
  obtain ⟨t, hp, ht, hts, _⟩ := readTm_inv h
  obtain ⟨hw, hd, hl⟩ := parse_wk hp
  match t, ht, hw, hd, hl, hts with
  | .atom a, ht, _, _, _, _ =>
    rw [Tree.tm, atomTm] at ht
    split at ht
    · simp at ht; subst ht; simp [Tm.ks] at hk
    · split at ht
      · simp at ht; subst ht; simp [Tm.ks] at hk
      · simp at ht
  | .node [], ht, _, _, _, _ => rw [Tree.tm] at ht; simp at ht
  | .node (q :: ps), ht, hw, hd, hl, hts =>
    obtain ⟨st, _, _, h3, rfl⟩ := tm_node ht
    rcases parts_kid [] _ ps St.none st h3 k hk with h4 | ⟨p, hpm, bd, h4⟩
    · cases h4
    · have hpk := part_wk ⟨hw, hd⟩ (List.mem_cons_of_mem q hpm)
      have hv := tm_isVal p bd
      have hv0 := tm_isVal p []
      rw [h4] at hv
      cases hk' : p.tm [] with
      | none => rw [hk'] at hv0; rw [← hv0] at hv; simp at hv
      | some k' =>
        rw [hk', ← hv] at hv0
        have hv1 : k'.isVal = k.isVal := by simpa using hv0
        have hpl : p.write.length ≤ 12000 := by
          have h5 := writes_part hpm
          rw [Tree.write] at hl
          simp only [List.length_cons, List.length_append] at hl
          omega
        have hps : p.size ≤ 1500 := by
          obtain ⟨i, hi⟩ := List.getElem?_of_mem hpm
          have h5 := size_part ps i p hi
          rw [Tree.size, Tree.sizes] at hts
          omega
        have hwr : k.txt.data.toList = p.write := by show k.write.toArray.toList = _; rw [tm_write p bd k h4]
        refine ⟨k', read_back hpk.1 hpk.2 hpl hps hk' hwr, ?_, hv1, ?_, ?_⟩
        · rw [← tm_size p [] k' hk', ← tm_size p bd k h4]
        · intro x hx
          rw [tm_free p bd k h4] at hx
          rw [tm_free p [] k' hk']
          exact free_sub (fun s hs => by simp [hasB] at hs) p hx
        · have : k.txt.size = k.txt.data.toList.length := rfl
          rw [this, hwr]; exact hpl
theorem frees_mem {x : ByteArray} : ∀ ks : List Tm, x ∈ Tm.frees ks → ∃ k ∈ ks, x ∈ k.free
  | [], h => by rw [Tm.frees] at h; cases h
  | k :: ks, h => by
    rw [Tm.frees] at h
    rcases List.mem_append.1 h with h | h
    · exact ⟨k, List.mem_cons_self .., h⟩
    · obtain ⟨k2, hk2, h2⟩ := frees_mem ks h
      exact ⟨k2, List.mem_cons_of_mem _ hk2, h2⟩
theorem lt_free {m : Tm} {x : ByteArray} (h : x ∈ m.free) : (∃ a d bs ty ks, m = .mk strName a d bs ty ks) ∨ ∃ k ∈ m.ks, x ∈ k.free := by
  cases m with
  | mk hd a d bs ty ks =>
    rw [Tm.free] at h
    split at h
    · rename_i c
      refine Or.inl ⟨a, d, bs, ty, ks, ?_⟩
      have : hd = strName := bytes_of_toList c.1
      rw [this]
    · exact Or.inr (frees_mem ks h)
theorem ks_size (m : Tm) : 1 + Tm.sizes m.ks ≤ m.size := by
  cases m with
  | mk hd a d bs ty ks => rw [Tm.size]; show 1 + Tm.sizes ks ≤ _; omega
end Go.Proofs.YthpcmglnooemaaaGreatDoor

namespace Go.Proofs.YthpcmglnooemaaaGreatDoor
open Go.RowKit

def KtPost (L : List Tm) (n : Nat) (w : World) (e : Ending) (w' : World) : Prop :=
  ∃ q c, e = .returned (.tuple #[.slice q n c, .bool true]) ∧ Vals w' q ((L.map Tm.txt).map .string) ∧ (∀ b o, q = some ⟨b, o, none⟩ → b < w'.heap.size) ∧ Below w.heap.size w w'
theorem lt_kids_post {s : ByteArray} {m : Tm} (hr : readTm s = some m) {w w' : World} {e : Ending} (h : ListPost (kidsOf s) w e w') : KtPost m.ks m.ks.length w e w' := by
  rw [kidsOf_some hr] at h
  obtain ⟨⟨q, c, rfl, ho⟩, hb⟩ := h
  have e1 : ((some (m.ks.map Tm.txt)).getD []).length = m.ks.length := by simp
  rw [e1] at ho ⊢
  exact ⟨q, c, rfl, vals_any ho, lw_under ho, hb⟩
theorem lt_get {L : List Tm} {i : Nat} {k : Tm} (h : L[i]? = some k) : ((L.map Tm.txt).map Value.string)[i]? = some (.string k.txt) := by simp [h]
theorem lt_kids4 {s : ByteArray} {m : Tm} (h : readTm s = some m) : m.ks.length ≤ 4 := by
  have h1 := kids_bound s
  rw [kidsOf_some h] at h1
  simpa using h1
theorem sort_ne {s : ByteArray} {m : Tm} (h : readTm s = some m) : (sortOf s).toList.isEmpty = false := by
  rw [sortOf, h]
  show (srtS (some m.isVal)).toList.isEmpty = false
  cases m.isVal <;> exact isEmpty_not _ (by decide)
theorem thOf_ne {s : ByteArray} {m : Tm} (h : readTm s = some m) : (thOf s).toList.isEmpty = false := by
  rw [thOf_some h]
  obtain ⟨hd, a, d, bs, ty, ks, rfl, hh⟩ := head_ne h
  exact hh
theorem ret_sort (s : ByteArray) : sortOf (({ data := #[40, 114, 101, 116, 117, 114, 110, 32] } : ByteArray) ++ s ++ ({ data := #[41] } : ByteArray)) = ByteArray.empty ∨ sortOf (({ data := #[40, 114, 101, 116, 117, 114, 110, 32] } : ByteArray) ++ s ++ ({ data := #[41] } : ByteArray)) = strC :=
  sort_comp (r := [101, 116, 117, 114, 110, 32] ++ s.data.toList ++ [41]) (by simp [ByteArray.data_append])
theorem thunk_sort (s : ByteArray) : sortOf (({ data := #[40, 116, 104, 117, 110, 107, 32] } : ByteArray) ++ s ++ ({ data := #[41] } : ByteArray)) = ByteArray.empty ∨ sortOf (({ data := #[40, 116, 104, 117, 110, 107, 32] } : ByteArray) ++ s ++ ({ data := #[41] } : ByteArray)) = strV :=
  sort_val (r := [117, 110, 107, 32] ++ s.data.toList ++ [41]) (by simp [ByteArray.data_append])
end Go.Proofs.YthpcmglnooemaaaGreatDoor

namespace Go.Proofs.YthpcmglnooemaaaGreatDoor
open Go.RowKit

theorem cntB_pos {s : List UInt8} {l : List ByteArray} : 0 < cntB s l ↔ hasB l s = true := by
  unfold cntB hasB
  rw [List.countP_pos_iff]
  simp [List.contains_eq_mem]
theorem hasB_appU (a b : List ByteArray) (s : List UInt8) : hasB (a ++ b) s = (hasB a s || hasB b s) := by
  induction a with
  | nil => show hasB b s = (false || hasB b s); rw [Bool.false_or]
  | cons x a ih => rw [List.cons_append, hasB_cons, hasB_cons, ih, Bool.or_assoc]
theorem ded_has (s : List UInt8) : ∀ (l acc : List ByteArray), hasB (dedB acc l) s = (hasB acc s || hasB l s)
  | [], acc => by rw [dedB]; simp [hasB]
  | x :: l, acc => by
    rw [dedB]
    split
    · rename_i h
      rw [ded_has s l acc, hasB_cons]
      cases e : x.toList == s with
      | false => simp
      | true =>
        have : x.toList = s := by simpa using e
        rw [this] at h; rw [h]; simp
    · rw [ded_has s l (acc ++ [x]), hasB_cons]
      have e1 : hasB (acc ++ [x]) s = (hasB acc s || x.toList == s) := by
        rw [hasB_appU, hasB_cons, show hasB [] s = false from rfl, Bool.or_false]
      rw [e1, Bool.or_assoc]
/-- What TermFree leaves of a term that is read. -/
def FtPost (F : List ByteArray) (n : Nat) (w : World) (e : Ending) (w' : World) : Prop :=
  ∃ q c, e = .returned (.tuple #[.slice q n c, .bool true]) ∧ SV w' q n c F ∧ Below w.heap.size w w'
theorem lt_free_post {s : ByteArray} {m : Tm} (hr : readTm s = some m) {w w' : World} {e : Ending} (h : ListPost (freeOf s) w e w') : FtPost (dedB [] m.free) (dedB [] m.free).length w e w' := by
  rw [freeOf_some hr] at h
  obtain ⟨⟨q, c, rfl, ho⟩, hb⟩ := h
  exact ⟨q, c, rfl, sv_own ho, hb⟩
/-- Free names are uses. -/
theorem us_free (n : ByteArray) (m : Tm) : decide ((0 : Int) < (cntB n.toList m.free : Int)) = hasB (dedB [] m.free) n.toList := by
  rw [ded_has, show hasB [] n.toList = false from rfl, Bool.false_or]
  cases e : hasB m.free n.toList with
  | true =>
    have := cntB_pos.2 e
    exact decide_eq_true (by omega)
  | false =>
    have : ¬ 0 < cntB n.toList m.free := fun h => by rw [cntB_pos.1 h] at e; cases e
    exact decide_eq_false (by omega)
theorem us_size (s : List UInt8) (m : Tm) : cntB s m.free ≤ m.size := Nat.le_trans (cntB_le s m.free) (free_length m)
theorem name_32 {l : List UInt8} (h : nameB l = true) : (32 : UInt8) ∉ l := by
  cases l with
  | nil => simp
  | cons c l =>
    rw [nameB] at h
    simp only [Bool.and_eq_true, decide_eq_true_eq, List.all_eq_true] at h
    intro hm
    rcases List.mem_cons.1 hm with e | e
    · rw [← e] at h; exact absurd h.1.1 (by decide)
    · exact absurd (h.2 _ e).1 (by decide)
theorem split_32 : ∀ (a b r1 r2 : List UInt8), (32 : UInt8) ∉ a → (32 : UInt8) ∉ b → a ++ 32 :: r1 = b ++ 32 :: r2 → a = b
  | [], [], _, _, _, _, _ => rfl
  | [], y :: b, _, _, _, hb, h => by simp at h; exact absurd (List.mem_cons.2 (Or.inl h.1)) hb
  | x :: a, [], _, _, ha, _, h => by simp at h; exact absurd (List.mem_cons.2 (Or.inl h.1.symm)) ha
  | x :: a, y :: b, r1, r2, ha, hb, h => by
    simp only [List.cons_append, List.cons.injEq] at h
    rw [h.1, split_32 a b r1 r2 (fun e => ha (List.mem_cons_of_mem _ e)) (fun e => hb (List.mem_cons_of_mem _ e)) h.2]
/-- What a text that binds a name has: no uses of it. -/
theorem us_bound {s x : ByteArray} (hx : nameB x.toList = true) {u : ByteArray} (hu : u.data.toList = [40, 103, 101, 116, 32] ++ x.data.toList ++ [32] ++ s.data.toList ++ [41]) : sortOf u = ByteArray.empty ∨ usesOf u x = 0 := by
  cases h : readTm u with
  | none => left; rw [sortOf, h]; rfl
  | some m =>
    right
    rw [usesOf_some h hx]
    obtain ⟨q, ps, bs, ty, ks, hp, rfl, hq, ⟨r2, hr⟩, ht⟩ := lt_node h (r := [103, 101, 116, 32] ++ x.data.toList ++ [32] ++ s.data.toList ++ [41]) (by rw [hu]; simp)
    have hg : q.toList = [103, 101, 116] := by
      simp only [headL, List.mem_cons, List.mem_nil_iff, or_false] at hq
      rcases hq with e | e | e | e | e | e | e | e | e | e | e | e | e | e | e | e <;> (rw [e] at hr; first | exact e | (simp at hr))
    obtain ⟨st, h1, h2, h3, hm⟩ := tm_node ht
    rw [Tree.text, hg] at h2 h3
    have hsh : shape [103, 101, 116] = [.X, .M] := by decide
    rw [hsh] at h2 h3
    match ps, h2, h3, hp, ht with
    | [p1, p2], _, h3, hp, ht =>
      have hpw := parse_write hp
      rw [hu] at hpw
      have hx1 : nameB p1.text.toList = true := by
        rw [Tree.parts] at h3
        cases ha : addX p1.text St.none with
        | none => rw [ha] at h3; simp at h3
        | some st1 => exact (addX_inv ha).1
      have hfr := tm_free _ [] _ ht
      rw [hfr, Tree.free, Tree.text, hg, hsh]
      have hxs : xsOf [.X, .M] [p1, p2] = [p1.text] := rfl
      rw [hxs, Tree.frees, Tree.frees, Tree.frees]
      have he : p1.text.toList = x.toList := by
        cases p1 with
        | node qs => rw [Tree.text, empty_toList] at hx1; cases hx1
        | atom y =>
          rw [Tree.text] at hx1 ⊢
          rw [Tree.write, Tree.write, Tree.writes, Tree.writes, Tree.writes, Tree.write] at hpw
          rw [← Go.ByteArray.toList_eq, ← Go.ByteArray.toList_eq, ← Go.ByteArray.toList_eq q, hg, ← Go.ByteArray.toList_eq y] at hpw
          simp at hpw
          exact (split_32 x.toList y.toList _ _ (name_32 hx) (name_32 hx1) hpw).symm
      have hu0 : cntB x.toList (p2.free ([] ++ [p1.text])) = 0 := by
        rw [uses_free x.toList hx p2]
        rw [if_pos (by show hasB [p1.text] x.toList = true; rw [hasB_cons, he]; simp)]
      simp [Sg.isK]
      exact hu0
end Go.Proofs.YthpcmglnooemaaaGreatDoor

namespace Go.Proofs.YthpcmglnooemaaaGreatDoor
open Go.RowKit

set_option maxRecDepth 100000 in
set_option maxHeartbeats 2000000 in
theorem specTermKids_any (s : ByteArray) (hs : s.size ≤ 400000000) (w : World) : Calls Tryz.prog 23 #[.string s] w (ListPost (kidsOf s) w) := by
  have HC := hid (fun W => l2Term_any s hs W)
  cases ht : termTree s with
  | none =>
    rw [kidsOf_none (termTree_none ht)]
    have HT := hid ht
    clear ht
    go_enter Tryz.func23, Tryz.ntmps23
    go_wp2_with (go_at_call 44; refine (HC.out _).mono ?_; rintro e w1 hp; rw [HT.out] at hp; obtain ⟨pa, pp, pl, pc, rfl, hpl, hb1⟩ := hp.none; clear hp; have HO := hid (own_empty (w1.alloc (.cells #[.string pa, .slice pp pl pc] 49)) w.heap.size (by have := hb1.size; simp; omega)))
    refine wp_loop_rounds 1 ?_
    rw [rounds_succ]
    by_cases h1 : (1 : Int) < (pl : Int)
    all_goals
      go_wp2_with fail
      go_ret2
      have s1 := hb1.size
      exact ⟨⟨some ⟨w1.heap.size + 1, 0, none⟩, 0, rfl, by simpa using HO.out⟩, (hb1.alloc s1 _).alloc (by simp; omega) _⟩
  | some t =>
    obtain ⟨hpt, hso, hsz, m, hm, htm⟩ := termTree_some ht
    rw [kidsOf_some hm, tm_ktx t [] m htm]
    cases t with
    | atom x =>
      have HT := hid ht
      clear ht hpt hso hsz hm htm
      go_enter Tryz.func23, Tryz.ntmps23
      go_wp2_with (go_at_call 44; refine (HC.out _).mono ?_; rintro e w1 hp; rw [HT.out] at hp; obtain ⟨pa, pp, pl, pc, rfl, hb1, htr⟩ := hp.some; clear hp; obtain ⟨rfl, rfl, rfl, rfl, _⟩ := htr.atom_inv; clear htr; have HO := hid (own_empty (w1.alloc (.cells #[.string pa, .slice none 0 0] 49)) w.heap.size (by have := hb1.size; simp; omega)))
      refine wp_loop_rounds 1 ?_
      rw [rounds_succ]
      go_wp2_with fail
      go_ret2
      have s1 := hb1.size
      rw [Tree.ktx]
      exact ⟨⟨some ⟨w1.heap.size + 1, 0, none⟩, 0, rfl, by simpa using HO.out⟩, (hb1.alloc s1 _).alloc (by simp; omega) _⟩
    | node ps =>
      obtain ⟨q, qs, rfl⟩ : ∃ q qs, ps = q :: qs := by
        cases ps with
        | nil => rw [Tree.tm] at htm; simp at htm
        | cons q qs => exact ⟨q, qs, rfl⟩
      have hsm := parse_small hpt
      have hwt := parse_wt hpt
      obtain ⟨_, hsl, _⟩ := wf_node hso
      have h4 := shape_four q.text.toList
      have HWL := hid (fun (i : Nat) (p : Tree) (hp : (q :: qs)[i]? = some p) => (show p.write.length ≤ 12000 ∧ p.wt ≤ 12000 from by
        have h1 := join_part (q :: qs) i p hp
        have h2 := wt_part (q :: qs) i p hp
        rw [write_node] at hsm
        rw [Tree.wt] at hwt
        simp at hsm
        omega))
      have HI := hid (fun b n cap i a c W h0 hn hc => l2Inner_any q b n cap i a c W h0 hn hc)
      rw [Tree.ktx]
      have HL4 := hid (ktxs_length (shape q.text.toList) qs)
      obtain ⟨cs, hcs⟩ : ∃ cs, shape q.text.toList = cs := ⟨_, rfl⟩
      rw [hcs] at hsl h4 HI HL4 ⊢
      obtain ⟨R, hR⟩ : ∃ R, Tree.ktxs cs qs = R := ⟨_, rfl⟩
      rw [hR]
      obtain ⟨n, hn⟩ : ∃ n, qs.length = n := ⟨_, rfl⟩
      have HN := hid hn
      have HSL := hid (hsl.trans hn)
      have hn4 : n ≤ 4 := by omega
      have HR := hid hR
      have HT := hid ht
      clear ht hpt hso hsz hm htm hsm hwt hsl h4 hcs hR hn
      obtain ⟨i0, hi0, hz0, hz1, hz2⟩ := info_parts Tryz.infoStr
      go_enter Tryz.func23, Tryz.ntmps23
      go_wp2_with (go_at_call 44; refine (HC.out _).mono ?_; rintro e w1 hp; rw [HT.out] at hp; obtain ⟨pa, pp, pl, cap, rfl, hb1, htr⟩ := hp.some; clear hp; go_loud (obtain ⟨b, A, rfl, rfl, hpl, _, _, _, hA, hB, hps⟩ := htr.node_inv; rw [List.length_cons, HN.out] at hpl hA hB; have hN1 : n < pl := (by omega); have hN2 : pl ≤ n + 1 := (by omega); clear hpl; obtain ⟨W2, hW2⟩ : ∃ W2, W2 = (w1.alloc (.cells #[.string ByteArray.empty, .slice (some ⟨b, 0, none⟩) pl cap] 49)).alloc (.cells #[] 9) := ⟨_, rfl⟩; have hbw : Below w1.heap.size w1 W2 := (by rw [hW2]; exact ((Below.refl _ _).alloc (Nat.le_refl _) _).alloc (by simp) _); have hsW : W2.heap.size = w1.heap.size + 2 := (by rw [hW2]; simp); have ho := own_empty (w1.alloc (.cells #[.string ByteArray.empty, .slice (some ⟨b, 0, none⟩) pl cap] 49)) (w1.heap.size + 1) (by simp); rw [← hW2] at ho; have hbx := heap_new w1 (.cells #[.string ByteArray.empty, .slice (some ⟨b, 0, none⟩) pl cap] 49) w1.heap.size rfl; have hbx2 := (heap_alloc_old (w1.alloc (.cells #[.string ByteArray.empty, .slice (some ⟨b, 0, none⟩) pl cap] 49)) (.cells #[] 9) (r := w1.heap.size) (by simp)).trans hbx; rw [← hW2] at hbx2; have HW := hid hW2; have HBX := hid hbx2; have HBW := hid hbw; have HO := hid ho; have HA := hid hA; have HB := hid hB; have HPS := hid hps; have HB1 := hid hb1; have hs1 := hb1.size; clear hW2 hbw ho hbx hbx2 hA hB hps htr hb1))
      rw [← HW.out]
      go_loopw [6, 7] (fun v u wr => ∃ (i m c : Nat) (q : Option Addr) (L1 : List ByteArray), i ≤ n ∧ m ≤ i ∧ u = .int .i64 ((i : Int) + 1) ∧ v = .slice q m c ∧ wr.ownsRow (w1.heap.size + 1) 9 1 (.slice q m c) m (L1.map Value.string) ∧ Below (w1.heap.size + 1) W2 wr ∧
        Hid (L1.length = m ∧ L1 ++ Tree.ktxs (cs.drop i) (qs.drop i) = R)) (fun _ u _ => pl - (intOf u).toNat)
      case atStart => exact ⟨0, 0, 0, some ⟨w1.heap.size + 1, 0, none⟩, [], Nat.zero_le _, Nat.le_refl _, rfl, rfl, by simpa using HO.out, Below.refl _ _, hid ⟨rfl, by simpa using HR.out⟩⟩
      case round =>
        obtain ⟨i, m2, c, q1, L1, hi, hmi, rfl, rfl, hown, hbel, hL⟩ := hrel
        have hz := hbel.size
        have kc2 := cells_of_pair ((hbel.block w1.heap.size (by omega)).trans HBX.out)
        have hbw1 := HBW.out.trans (hbel.mono (by omega))
        have kw : Kept w1 wr := Kept.of_below hbw1 (Nat.le_refl _)
        have hwr := hbw1.size
        have HOWN := hid hown
        have HBEL := hid hbel
        have KW := hid kw
        clear hown hbel hbw1
        by_cases hlt : i < n
        · obtain ⟨p, hp⟩ : ∃ p, qs[i]? = some p := ⟨_, List.getElem?_eq_getElem (by rw [HN.out]; exact hlt)⟩
          obtain ⟨d, hcc⟩ : ∃ d, cs[i]? = some d := ⟨_, List.getElem?_eq_getElem (by rw [HSL.out]; exact hlt)⟩
          have d2 : (i : Int) + 1 < (pl : Int) := by omega
          have d2' : i + 1 < pl := by omega
          have hst := ktxs_step hcc hp
          have CI := hid (HI.out b pl cap i ByteArray.empty d wr (kw.cell (by have := HA.out 0 (by omega); rw [((HPS.out 0 q rfl).text)] at this; simpa using this)) (by omega) hcc)
          have CA := hid (fun W (hk : Kept wr W) => hk.cell (kw.cell (HA.out (i + 1) (by omega))))
          have CB2 := hid (fun W (hk : Kept wr W) => hk.cell (kw.cell (HB.out (i + 1) (by omega))))
          have KBX := hid (fun W (hk : Kept wr W) => (show W.cell? ⟨w1.heap.size, 0, none⟩ = some (.string ByteArray.empty) ∧ W.cell? ⟨w1.heap.size, 1, none⟩ = some (.slice (some ⟨b, 0, none⟩) pl cap) from ⟨hk.cell kc2.1, hk.cell kc2.2.1⟩))
          cases hK : d.isK with
          | false =>
            rw [hK] at CI hst
            have HL2 := hid (show L1.length = m2 ∧ L1 ++ Tree.ktxs (cs.drop (i + 1)) (qs.drop (i + 1)) = R by
              have := hL.out; rw [hst] at this; simpa using this)
            clear hst hL hp hcc kw hK
            go_wp2_with (go_at_call 53; refine CI.out.mono ?_; rintro e w3 ⟨rfl, hb3⟩)
            go_roundw
            case rel => exact ⟨i + 1, m2, c, q1, L1, by omega, by omega, by go_num, rfl, ownsRow_under HOWN.out hb3, HBEL.out.trans (hb3.mono (by omega)), HL2⟩
            case measure => simp [intOf]; omega
          | true =>
            rw [hK] at CI hst
            have hqp : (q :: qs)[i + 1]? = some p := by simpa using hp
            obtain ⟨X, hX⟩ : ∃ X, p.txt = X := ⟨_, rfl⟩
            have HC1 := hid (fun W (hk : Kept wr W) (hs : wr.heap.size ≤ W.heap.size) => l1Text_any (HPS.out (i + 1) p hqp) (HWL.out _ _ hqp).1 (HWL.out _ _ hqp).2 W (kw.trans hk hwr) (by omega))
            have HL2 := hid (show (L1 ++ [X]).length = m2 + 1 ∧ (L1 ++ [X]) ++ Tree.ktxs (cs.drop (i + 1)) (qs.drop (i + 1)) = R by
              have := hL.out; rw [hst, hX] at this; simpa using this)
            rw [hX] at HC1
            clear hst hL hp hcc kw hK hqp hX
            have ca := CA.out wr (Kept.refl _)
            have cb := CB2.out wr (Kept.refl _)
            go_wp2_with (first
              | (at_builtin; have s4 := hb4.size; refine wpList_append_at _ rfl _ _ 25 rfl (w1.heap.size + 1) 9 i0 (.string ByteArray.empty) 1 16 Tryz.underlying25 hi0 hz0 hz1 hz2 rfl (by decide) (.slice q1 m2 c) m2 _ rfl ((ownsRow_under HOWN.out (HB3.out.trans (hb4.mono s3))).alloc _) ⟨w4.heap.size, 0, none⟩ 1 1 [.string X] rfl rfl (cells_new1 _ _ _ _ rfl) (by intro u hu; simp at hu; subst hu; rfl) (by decide) (by unfold maxLen; omega) (by omega) (by simp; omega) ?_; intro v' w6 hown2 hg2 hw2 hv2; obtain ⟨g2, kc3, rfl⟩ := hv2; have HG := hid hg2; have HO6 := hid hown2; clear hg2 hown2 hw2)
              | (go_at_call 53; refine CI.out.mono ?_; rintro e w3 ⟨rfl, hb3⟩; have s3 := hb3.size; have K3 := hid (Kept.of_below hb3 (Nat.le_refl _)); have HB3 := hid hb3; have kb3 := KBX.out _ K3.out; have ca3 := CA.out _ K3.out; have cb3 := CB2.out _ K3.out; clear hb3)
              | (go_at_call 54; refine (HC1.out _ K3.out s3).mono ?_; rintro e w4 ⟨rfl, hb4⟩))
            go_roundw
            case rel =>
              have s4 := hb4.size
              refine ⟨i + 1, m2 + 1, kc3, some ⟨g2, 0, none⟩, L1 ++ [X], by omega, by omega, by go_num, rfl, by rw [List.map_append]; exact HO6.out, ?_, HL2⟩
              exact ((HBEL.out.trans ((HB3.out.trans (hb4.mono s3)).mono (by omega))).alloc (by omega) _).grown HG.out (by simp; omega) (fun k e => (HOWN.out.lt k e).1)
            case measure => simp [intOf]; omega
        · have he : R = L1 := by
            have := hL.out.2
            rw [List.drop_of_length_le (l := cs) (by rw [HSL.out]; omega)] at this
            simpa [Tree.ktxs] using this.symm
          have HE := hid he
          have HLL1 := hid hL.out.1
          clear he hL kw
          go_wp2_with fail
          go_ret2
          refine ListPost.of (l := R) (b := true) rfl rfl ⟨⟨q1, c, ?_, ?_⟩, ?_⟩
          · rw [HE.out, HLL1.out]; rfl
          · rw [HE.out, HLL1.out]; exact own_base HOWN.out (by omega)
          · exact HB1.out.trans ((HBW.out.trans (HBEL.out.mono (by omega))).mono hs1)

end Go.Proofs.YthpcmglnooemaaaGreatDoor

namespace Go.Proofs.YthpcmglnooemaaaGreatDoor
open Go.RowKit

/-- What a list that is answered leaves. -/
def LlPost (l : List ByteArray) (n : Nat) (b : Bool) (w : World) (e : Ending) (w' : World) : Prop :=
  ∃ q c, e = .returned (.tuple #[.slice q n c, .bool b]) ∧ SV w' q n c l ∧ Vals w' q (l.map .string) ∧ (∀ g o, q = some ⟨g, o, none⟩ → g < w'.heap.size) ∧ Below w.heap.size w w'
theorem ll_post {o : Option (List ByteArray)} {w w' : World} {e : Ending} (h : ListPost o w e w') : LlPost (o.getD []) (o.getD []).length o.isSome w e w' := by
  obtain ⟨⟨q, c, rfl, ho⟩, hb⟩ := h
  exact ⟨q, c, rfl, sv_own ho, vals_any ho, lw_under ho, hb⟩
theorem ll_of {o : Option (List ByteArray)} {l : List ByteArray} {n : Nat} {b : Bool} {w w' : World} {e : Ending} (h : ListPost o w e w') (hl : o.getD [] = l) (hn : l.length = n) (hb : o.isSome = b) : LlPost l n b w e w' := by
  subst hl; subst hn; subst hb; exact ll_post h
/-- What is free in a part of its own. -/
def frOf (k : Tm) : List ByteArray := (freeOf k.txt).getD []
theorem fr_len (k : Tm) : (frOf k).length ≤ 1500 := free_bound k.txt
theorem frs_snoc (L : List Tm) (i : Nat) (k : Tm) (h : L[i]? = some k) : (L.take (i + 1)).flatMap frOf = (L.take i).flatMap frOf ++ frOf k := by
  rw [List.take_add_one, h]; simp
theorem ded_mem {x : ByteArray} : ∀ (l acc : List ByteArray), x ∈ dedB acc l → x ∈ acc ∨ x ∈ l
  | [], acc, h => by rw [dedB] at h; exact Or.inl h
  | y :: l, acc, h => by
    rw [dedB] at h
    split at h
    · rcases ded_mem l acc h with h | h
      · exact Or.inl h
      · exact Or.inr (List.mem_cons_of_mem _ h)
    · rcases ded_mem l (acc ++ [y]) h with h | h
      · rcases List.mem_append.1 h with h | h
        · exact Or.inl h
        · simp at h; subst h; exact Or.inr (List.mem_cons_self ..)
      · exact Or.inr (List.mem_cons_of_mem _ h)
theorem hasB_mem {x : ByteArray} {l : List ByteArray} (h : x ∈ l) : hasB l x.toList = true := by
  unfold hasB
  simp only [List.contains_eq_mem, decide_eq_true_eq]
  first
    | exact List.mem_map_of_mem h
    | exact List.mem_map_of_mem _ h
theorem mem_hasB {x : ByteArray} {l : List ByteArray} (h : hasB l x.toList = true) : x ∈ l := by
  induction l with
  | nil => simp [hasB] at h
  | cons y l ih =>
    rw [hasB_cons] at h
    cases e : y.toList == x.toList with
    | true =>
      have : y = x := bytes_of_toList (by rw [← Go.ByteArray.toList_eq x]; simpa using e)
      rw [this]; exact List.mem_cons_self ..
    | false => rw [e, Bool.false_or] at h; exact List.mem_cons_of_mem _ (ih h)
/-- A free name of a term is free in one of its parts, unless the term is the name. -/
theorem frs_all {s : ByteArray} {m : Tm} (hr : readTm s = some m) {x : ByteArray} (hx : x ∈ dedB [] m.free) : hasB (m.ks.flatMap frOf) x.toList = true ∨ ((thOf s).toList == [110, 97, 109, 101]) = true := by
  have hm : x ∈ m.free := by
    rcases ded_mem _ _ hx with h | h
    · cases h
    · exact h
  rcases lt_free hm with ⟨a, d, bs, ty, ks, rfl⟩ | ⟨k, hk, hxk⟩
  · right
    rw [thOf_some hr]
    show (strName.toList == _) = true
    rw [strName_toList]; rfl
  · left
    obtain ⟨k', hk'⟩ := lt_kid hr hk
    refine hasB_mem (List.mem_flatMap.2 ⟨k, hk, ?_⟩)
    rw [frOf, freeOf_some hk'.read]
    show x ∈ dedB [] k'.free
    refine mem_hasB ?_
    rw [ded_has]
    simp only [Bool.or_eq_true]
    exact Or.inr (hasB_mem (hk'.free x hxk))
theorem kid_size {m k : Tm} (h : k ∈ m.ks) : k.size < m.size := by
  have h1 := ks_size m
  have h2 : ∀ l : List Tm, k ∈ l → k.size ≤ Tm.sizes l := by
    intro l
    induction l with
    | nil => intro h; cases h
    | cons y l ih =>
      intro h
      rw [Tm.sizes]
      rcases List.mem_cons.1 h with rfl | h
      · omega
      · have := ih h; omega
  have h3 := h2 _ h
  omega
end Go.Proofs.YthpcmglnooemaaaGreatDoor
