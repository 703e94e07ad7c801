/- Merged: PutS, PutT, PutM. -/
import Derived.Deep.RegionLaw
import Derived.Deep.AppendLies
import Derived.Test.YthpcmglnooemaaaGreatDoorWP24
import Derived.Test.YthpcmglnooemaaaGreatDoorWP26
namespace Go.Proofs.YthpcmglnooemaaaGreatDoor
open Go.RowKit

theorem two_cons (h : Hd) (l : List Hd) : two (h :: l) = .string h.a :: .slice h.p h.l h.c :: two l := rfl
theorem two_at : ∀ (l : List Hd) (i : Nat) (h : Hd), l[i]? = some h → (two l)[i * 2]? = some (.string h.a) ∧ (two l)[i * 2 + 1]? = some (.slice h.p h.l h.c)
  | [], i, h, e => by simp at e
  | x :: l, 0, h, e => by simp at e; subst e; exact ⟨rfl, rfl⟩
  | x :: l, i + 1, h, e => by
    have := two_at l i h (by simpa using e)
    rw [two_cons]
    rw [show (i + 1) * 2 = i * 2 + 1 + 1 by omega]
    simpa using this
theorem two_set : ∀ (l : List Hd) (i : Nat) (h : Hd), ((two l).set (i * 2) (.string h.a)).set (i * 2 + 1) (.slice h.p h.l h.c) = two (l.set i h)
  | [], i, h => rfl
  | x :: l, 0, h => rfl
  | x :: l, i + 1, h => by
    rw [two_cons, List.set_cons_succ, two_cons, ← two_set l i h, show (i + 1) * 2 = i * 2 + 1 + 1 by omega]
    rfl
/-- What l2Put leaves. -/
def PutTPost (s0 : Nat) (T : Tree) (w : World) (e : Ending) (w' : World) : Prop := ∃ h : Hd, e = .returned (.agg #[.string h.a, .slice h.p h.l h.c]) ∧ TIn w' (fun k => k < s0 ∨ w.heap.size ≤ k) T h ∧ Below w.heap.size w w'
def PutAsk (s : ByteArray) (w0 : World) (vt : Tree) (vh : Hd) (t : Tree) (h : Hd) : Prop := ∀ w, Kept w0 w → w0.heap.size ≤ w.heap.size →
  Calls Tryz.prog 64 #[.agg #[.string h.a, .slice h.p h.l h.c], .string s, .agg #[.string vh.a, .slice vh.p vh.l vh.c]] w (PutTPost w0.heap.size (Tree.put s.toList vt t) w)

set_option maxRecDepth 100000 in
set_option maxHeartbeats 1000000 in
theorem putT_atom (s x : ByteArray) {w0 : World} {S2 : Nat → Prop} {vt : Tree} {vh : Hd} (hv : TIn w0 S2 vt vh) (hne : x.size ≠ 0) (hm : x.size ≤ maxLen) : PutAsk s w0 vt vh (.atom x) ⟨x, none, 0, 0⟩ := by
  intro w hk hw
  have he := isEmpty_not x hne
  have HK := hid hk
  have HV := hid hv
  have HM := hid hm
  obtain ⟨va, vp, vl, vc⟩ := vh
  clear hk hv hm
  cases hq : x.toList == s.toList with
  | true =>
    have HF := hid (show Tree.put s.toList vt (.atom x) = vt by rw [Tree.put, if_pos (by simpa using hq)])
    go_enter Tryz.func64, Tryz.ntmps64
    go_wp2_with fail
    refine bodyPost_ret (v := .agg #[.string va, .slice vp vl vc]) (by simp [results, Tryz.results64, go_sem]) rfl ?_
    rw [HF.out]
    exact ⟨⟨va, vp, vl, vc⟩, rfl, HV.out.keep (fun k _ hl => (((HK.out.alloc hw _).alloc (by simp; omega) _).alloc (by simp; omega) _) k hl) (fun k _ hl => Or.inl hl), (((Below.refl w.heap.size w).alloc (Nat.le_refl _) _).alloc (by simp) _).alloc (by simp; omega) _⟩
  | false =>
    have HF := hid (show Tree.put s.toList vt (.atom x) = .atom x by rw [Tree.put, if_neg (by simpa using hq)])
    go_enter Tryz.func64, Tryz.ntmps64
    go_wp2_with fail
    refine bodyPost_ret (v := .agg #[.string x, .slice none 0 0]) (by simp [results, Tryz.results64, go_sem]) rfl ?_
    rw [HF.out]
    exact ⟨⟨x, none, 0, 0⟩, rfl, .atom x hne HM.out, (((Below.refl w.heap.size w).alloc (Nat.le_refl _) _).alloc (by simp) _).alloc (by simp; omega) _⟩

end Go.Proofs.YthpcmglnooemaaaGreatDoor

namespace Go.Proofs.YthpcmglnooemaaaGreatDoor
open Go.RowKit

theorem puts_at {s : List UInt8} {v : Tree} {xs : List ByteArray} : ∀ (cs : List Sg) (qs : List Tree) (j : Nat) (c : Sg) (p : Tree), cs.length = qs.length → cs[j]? = some c → qs[j]? = some p →
    (Tree.puts s v xs cs qs)[j]? = some (if c.isK = true ∧ ¬ (j + 1 = cs.length ∧ hasB xs s = true) then Tree.put s v p else p)
  | [], _, _, _, _, _, h, _ => by simp at h
  | _ :: _, [], _, _, _, h, _, _ => by simp at h
  | c0 :: cs, p0 :: ps, 0, c, p, hl, hc, hp => by
    simp at hc hp; subst hc; subst hp
    rw [Tree.puts, List.getElem?_cons_zero]
    have e : (cs = []) ↔ (0 + 1 = (c0 :: cs).length) := by cases cs <;> simp
    simp only [e]
  | c0 :: cs, p0 :: ps, j + 1, c, p, hl, hc, hp => by
    rw [Tree.puts, List.getElem?_cons_succ, puts_at cs ps j c p (by simpa using hl) (by simpa using hc) (by simpa using hp)]
    have e : (j + 1 = cs.length) ↔ (j + 1 + 1 = (c0 :: cs).length) := by simp
    simp only [e]
theorem grow_chain2 {W0 wr w3 w4 : World} {r : Option Nat} (h : W0.grownBy wr r) (hb : Below wr.heap.size wr w3) (hg : w3.grownBy w4 r) : W0.grownBy w4 r := by
  refine ⟨hg.os.trans (hb.os.trans h.os), hg.tape.trans (hb.tape.trans h.tape), hg.output.trans (hb.output.trans h.output), Nat.le_trans h.size (Nat.le_trans hb.size hg.size), fun k hk hkr => ?_⟩
  have h1 := h.size
  have h2 := hb.size
  rw [hg.block k (by omega) hkr, hb.block k (by omega), h.block k hk hkr]
theorem two_one (l : List Hd) : ∀ u ∈ two l, u.oneCell' = true := by
  intro u hu
  unfold two at hu
  obtain ⟨x, _, h⟩ := List.mem_flatMap.1 hu
  simp at h
  rcases h with rfl | rfl <;> rfl
set_option maxRecDepth 100000 in
set_option maxHeartbeats 8000000 in
theorem putT_go (s : ByteArray) {w0 : World} {S S2 : Nat → Prop} {vt : Tree} {vh : Hd} (hv : TIn w0 S2 vt vh) {q : Tree} {qs : List Tree} {b cap n N : Nat} {A : Nat → Hd} (hn : qs.length = n) (hN : N = n + 1)
    (hA : ∀ i, i < n + 1 → w0.cell? ⟨b, i * 2, none⟩ = some (.string (A i).a)) (hB : ∀ i, i < n + 1 → w0.cell? ⟨b, i * 2 + 1, none⟩ = some (.slice (A i).p (A i).l (A i).c))
    (hps : ∀ i p, (q :: qs)[i]? = some p → TIn w0 S p (A i)) (hwf : Tree.srt (.node (q :: qs)) ≠ none)
    (ih : ∀ i p, (q :: qs)[i]? = some p → p.srt ≠ none → PutAsk s w0 vt vh p (A i)) : PutAsk s w0 vt vh (.node (q :: qs)) ⟨ByteArray.empty, some ⟨b, 0, none⟩, N, cap⟩ := by
  intro w hk hw
  obtain ⟨va, vp, vl, vc⟩ := vh
  obtain ⟨h0, hsl, hft⟩ := wf_node hwf
  have h4 := shape_four q.text.toList
  obtain ⟨ht0, htk⟩ := part_texts hn hA hps
  have HFT := hid (fun i c p hc hp hk => fit1_wf (fits_get (shape q.text.toList) qs i c p hft hc hp) hk)
  have HI := hid (fun i c W h0 hc => l2Inner_any q b N cap i ByteArray.empty c W h0 (by omega) hc)
  have HBN := hid (fun i W hi h0 ht => l2Binds_any q qs b N n i cap ByteArray.empty W hN hn hi hsl h0 ht)
  have hxl : (xsOf (shape q.text.toList) qs).length ≤ 4 := by have := xsOf_length (shape q.text.toList) qs; omega
  have HR := hid (show Tree.put s.toList vt (.node (q :: qs)) = .node (q :: Tree.puts s.toList vt (xsOf (shape q.text.toList) qs) (shape q.text.toList) qs) by rw [Tree.put])
  obtain ⟨cs, hcs⟩ : ∃ cs, shape q.text.toList = cs := ⟨_, rfl⟩
  rw [hcs] at HFT HI HBN HR hxl hsl h4
  obtain ⟨xs, hxs⟩ : ∃ xs, xsOf cs qs = xs := ⟨_, rfl⟩
  rw [hxs] at HBN HR hxl
  have hn4 : n ≤ 4 := by omega
  have hN1 : n < N := by omega
  have hN2 : N ≤ n + 1 := by omega
  have hN5 : N ≤ 5 := by omega
  have hltb := World.block_lt_of_cell? w0 _ (hA 0 (by omega))
  obtain ⟨L0, hL0⟩ : ∃ L0, (List.range N).map A = L0 := ⟨_, rfl⟩
  have hL0n : L0.length = N := by rw [← hL0]; simp
  have hL0g : ∀ i, i < N → L0[i]? = some (A i) := fun i hi => by rw [← hL0]; simp [hi]
  have hcells : ∀ j u, (two L0)[j]? = some u → w0.cell? ((⟨b, 0, none⟩ : Addr).add j) = some u := by
    intro j u hu
    have hj : j < N * 2 := by
      have := (List.getElem?_eq_some_iff.1 hu).1
      rw [two_length, hL0n] at this; exact this
    have hadd : (⟨b, 0, none⟩ : Addr).add j = ⟨b, j, none⟩ := by unfold Addr.add; split <;> simp_all
    rw [hadd]
    rcases Nat.mod_two_eq_zero_or_one j with e | e
    · have e2 : j = (j / 2) * 2 := by omega
      rw [e2] at hu ⊢
      rw [(two_at L0 (j / 2) _ (hL0g _ (by omega))).1] at hu
      rw [hA (j / 2) (by omega)]; exact hu
    · have e2 : j = (j / 2) * 2 + 1 := by omega
      rw [e2] at hu ⊢
      rw [(two_at L0 (j / 2) _ (hL0g _ (by omega))).2] at hu
      rw [hB (j / 2) (by omega)]; exact hu
  have HCELLS := hid hcells
  have HL0N := hid hL0n
  have HL0G := hid hL0g
  obtain ⟨W0, hW0⟩ : ∃ W0, W0 = (((w.alloc (.cells #[.string ByteArray.empty, .slice (some ⟨b, 0, none⟩) N cap] 49)).alloc (.cells #[.string va, .slice vp vl vc] 49)).alloc (.cells #[.string ⟨#[]⟩, .slice none 0 0] 49)).alloc (.cells #[] 49) := ⟨_, rfl⟩
  have hW0s : W0.heap.size = w.heap.size + 4 := by rw [hW0]; simp
  have hkW : Kept w0 W0 := by rw [hW0]; exact (((hk.alloc hw _).alloc (by simp; omega) _).alloc (by simp; omega) _).alloc (by simp; omega) _
  have hbelw : Below w.heap.size w W0 := by rw [hW0]; exact ((((Below.refl _ _).alloc (Nat.le_refl _) _).alloc (by simp) _).alloc (by simp; omega) _).alloc (by simp; omega) _
  have hb0 : W0.heap[w.heap.size]? = some (.cells #[.string ByteArray.empty, .slice (some ⟨b, 0, none⟩) N cap] 49 (0, 0)) := by
    rw [hW0, heap_alloc_old _ _ (by simp; omega), heap_alloc_old _ _ (by simp; omega), heap_alloc_old _ _ (by simp)]; exact heap_new _ _ _ rfl
  have hb1 : W0.heap[w.heap.size + 1]? = some (.cells #[.string va, .slice vp vl vc] 49 (0, 0)) := by
    rw [hW0, heap_alloc_old _ _ (by simp), heap_alloc_old _ _ (by simp)]; exact heap_new _ _ _ (by simp)
  have hb2 : W0.heap[w.heap.size + 2]? = some (.cells #[.string ⟨#[]⟩, .slice none 0 0] 49 (0, 0)) := by
    rw [hW0, heap_alloc_old _ _ (by simp)]; exact heap_new _ _ _ (by simp)
  have HB2 := hid hb2
  have HB0 := hid hb0
  have HB1 := hid hb1
  have HW0S := hid hW0s
  have hown0' := World.ownsRow_made (w := ((w.alloc (.cells #[.string ByteArray.empty, .slice (some ⟨b, 0, none⟩) N cap] 49)).alloc (.cells #[.string va, .slice vp vl vc] 49)).alloc (.cells #[.string ⟨#[]⟩, .slice none 0 0] 49)) (base := w.heap.size + 3) (e := 49) (size := 2) #[] 0 (by simp) (by simp) (by simp)
  rw [← hW0] at hown0'
  have HOWN0 := hid (show W0.ownsRow (w.heap.size + 3) 49 2 (.slice (some ⟨w.heap.size + 3, 0, none⟩) 0 0) 0 [] from by simpa using hown0')
  clear hown0'
  have HBW := hid hbelw
  have HSL := hid (hsl.trans hn)
  have HN := hid hn
  have HT0 := hid ht0
  have HTK := hid htk
  have HPS := hid hps
  have HA := hid hA
  have HB := hid hB
  obtain ⟨PS, hPS⟩ : ∃ PS, Tree.puts s.toList vt xs cs qs = PS := ⟨_, rfl⟩
  have HPG := hid (fun j c p (hc : cs[j]? = some c) (hp : qs[j]? = some p) => (show PS[j]? = some (if c.isK = true ∧ ¬ (j + 1 = cs.length ∧ hasB xs s.toList = true) then Tree.put s.toList vt p else p) from by rw [← hPS]; exact puts_at cs qs j c p hsl hc hp))
  have HPL := hid (show PS.length = n by rw [← hPS, puts_length _ _ _ _ _ hsl]; exact hn)
  have HR2 := hid (show Tree.put s.toList vt (.node (q :: qs)) = .node (q :: PS) by rw [HR.out, hPS])
  clear hPS
  have HIH := hid ih
  have HK := hid hkW
  have HW0 := hid hW0
  have HV := hid hv
  have hkk := hk
  obtain ⟨i0, hi0, hz0, hz1, hz2⟩ := info_parts Tryz.infoTree
  rw [HR2.out]
  clear hb0 hb1 hb2 hW0s hn hN hA hB hps hwf ih hk h0 hsl hft h4 ht0 htk hcs hxs hkW hW0 hbelw hL0 hL0n hL0g hcells hv
  go_enter Tryz.func64, Tryz.ntmps64
  go_wp2_with (at_builtin; go_loud (rw [← HW0.out]; refine wpList_append_at _ rfl _ _ 47 rfl (w.heap.size + 3) 49 i0 (.agg #[.string ByteArray.empty, .slice none 0 0]) 2 40 Tryz.underlying47 hi0 hz0 hz1 hz2 rfl (by decide) (.slice (some ⟨w.heap.size + 3, 0, none⟩) 0 0) 0 [] rfl HOWN0.out ⟨b, 0, none⟩ N cap (two L0) rfl (by rw [two_length, HL0N.out]) (fun j u hu => (HK.out.cell (HCELLS.out j u hu))) (two_one L0) (by omega) (by unfold maxLen; omega) (by omega) (by have := HW0S.out; omega) ?_; intro v' w2 hown2 hg2 hw2 hv2; obtain ⟨g, kc, rfl⟩ := hv2; have HO2 := hid hown2; have HG2 := hid hg2; have HW2 := hid hw2; clear hown2 hg2 hw2))
  have hgb := HO2.out.lt g (by simp [Value.ownBlock])
  have hg3 : w.heap.size + 3 ≤ g := hgb.1
  have hg2 : g < w2.heap.size := hgb.2
  have HO3 := hid (show (w2.alloc (.cells #[.string ⟨#[]⟩, .slice (some ⟨g, 0, none⟩) N kc] 49)).ownsRow (w.heap.size + 3) 49 2 (.slice (some ⟨g, 0, none⟩) N kc) N (two L0) from by simpa using HO2.out.alloc _)
  obtain ⟨W3, hW3⟩ : ∃ W3, W3 = w2.alloc (.cells #[.string ⟨#[]⟩, .slice (some ⟨g, 0, none⟩) N kc] 49) := ⟨_, rfl⟩
  rw [← hW3] at HO3
  have hw23 := HG2.out.size
  have hW3s : W3.heap.size = w2.heap.size + 1 := by rw [hW3]; simp
  have hblk : ∀ k, k < W0.heap.size → k ≠ w.heap.size + 3 → W3.heap[k]? = W0.heap[k]? := fun k hk hne => by
    rw [hW3, heap_alloc_old _ _ (by omega)]; exact HG2.out.block k hk (by simp [Value.ownBlock]; omega)
  have hs0 := HW0S.out
  have hB0 := (hblk w.heap.size (by omega) (by omega)).trans HB0.out
  have hB1 := (hblk (w.heap.size + 1) (by omega) (by omega)).trans HB1.out
  have hB2 := (hblk (w.heap.size + 2) (by omega) (by omega)).trans HB2.out
  have BX2 := hid hB2
  have hBo : W3.heap[w2.heap.size]? = some (.cells #[.string ⟨#[]⟩, .slice (some ⟨g, 0, none⟩) N kc] 49 (0, 0)) := by rw [hW3]; exact heap_new _ _ _ rfl
  have hK3 : Kept w0 W3 := fun k hk => (hblk k (by omega) (by omega)).trans (HK.out k hk)
  have hBel3 : Below w.heap.size w W3 := by rw [hW3]; exact (HBW.out.grown HG2.out (by omega) (fun k e => by simp [Value.ownBlock] at e; omega)).alloc (by omega) _
  have HW3 := hid hW3
  have BX0 := hid hB0
  have BX1 := hid hB1
  have BXO := hid hBo
  have K3 := hid hK3
  have BEL3 := hid hBel3
  have HW3S := hid hW3s
  have h3g : g < W3.heap.size := by omega
  have h3w : w.heap.size + 4 ≤ W3.heap.size := by omega
  have h3o : w2.heap.size < W3.heap.size := by omega
  have hgo : g ≠ w2.heap.size := by omega
  clear hgb hW3 hblk hs0 hB0 hB1 hB2 hBo hK3 hBel3 hW3s hw23
  rw [← HW3.out]
  go_loopw [8] (fun u wr => ∃ (i : Nat) (L : List Hd), i ≤ n ∧ u = .int .i64 ((i : Int) + 1) ∧ wr.ownsRow (w.heap.size + 3) 49 2 (.slice (some ⟨g, 0, none⟩) N kc) N (two L) ∧ W3.grownBy wr (some g) ∧ Hid (L.length = N ∧ (∃ h, L[0]? = some h ∧ TIn wr (fun k => k < w0.heap.size ∨ g < k) q h) ∧ ∀ k p, (if k < i then PS[k]? else qs[k]?) = some p → ∃ h, L[k + 1]? = some h ∧ TIn wr (fun k => k < w0.heap.size ∨ g < k) p h)) (fun u _ => N - (intOf u).toNat)
  case atStart =>
    refine ⟨0, L0, Nat.zero_le _, rfl, HO3.out, World.grownBy.refl _ _, hid ⟨HL0N.out, ⟨A 0, HL0G.out 0 (by omega), (HPS.out 0 q rfl).keep (fun k _ hl => K3.out k hl) (fun k _ hl => Or.inl hl)⟩, fun k p hp => ?_⟩⟩
    rw [if_neg (by omega)] at hp
    have hk := (List.getElem?_eq_some_iff.1 hp).1
    exact ⟨A (k + 1), HL0G.out (k + 1) (by have := HN.out; omega), (HPS.out (k + 1) p (by simpa using hp)).keep (fun k _ hl => K3.out k hl) (fun k _ hl => Or.inl hl)⟩
  case round =>
    obtain ⟨i, L, hi, rfl, hown, hgr, hL⟩ := hrel
    have hz := hgr.size
    have hkeep : ∀ k, k < W3.heap.size → k ≠ g → wr.heap[k]? = W3.heap[k]? := fun k hk hne => hgr.block k hk (by simp; omega)
    have kc0 := cells_of_pair ((hkeep w.heap.size (by omega) (by omega)).trans BX0.out)
    have kc1 := cells_of_pair ((hkeep (w.heap.size + 1) (by omega) (by omega)).trans BX1.out)
    have kco := cells_of_pair ((hkeep w2.heap.size (by omega) (by omega)).trans BXO.out)
    have kc2 := cells_of_pair ((hkeep (w.heap.size + 2) (by omega) (by omega)).trans BX2.out)
    have kw : Kept w0 wr := fun k hk => (hkeep k (by omega) (by omega)).trans (K3.out k hk)
    have hwr : w0.heap.size ≤ wr.heap.size := by omega
    have HGR := hid hgr
    have HOWN := hid hown
    have KW := hid kw
    clear hown hgr hkeep
    by_cases hlt : i < n
    · obtain ⟨p, hp⟩ : ∃ p, qs[i]? = some p := ⟨_, List.getElem?_eq_getElem (by rw [HN.out]; exact hlt)⟩
      obtain ⟨d, hcc⟩ : ∃ d, cs[i]? = some d := ⟨_, List.getElem?_eq_getElem (by rw [HSL.out]; exact hlt)⟩
      have d2 : (i : Int) + 1 < (N : Int) := by omega
      have d2' : i + 1 < N := by omega
      have CI := hid (fun W (hk : Kept wr W) => HI.out i d W (hk.cell (kw.cell HT0.out)) hcc)
      have CB := hid (fun W (hk : Kept wr W) => HBN.out i W hlt (hk.cell (kw.cell HT0.out)) (fun k p hp => hk.cell (kw.cell (HTK.out k p hp))))
      have CA := hid (fun W (hk : Kept wr W) => hk.cell (kw.cell (HA.out (i + 1) (by omega))))
      have CB2 := hid (fun W (hk : Kept wr W) => hk.cell (kw.cell (HB.out (i + 1) (by omega))))
      have KB := hid (fun W (hk : Kept wr W) => (show (W.cell? ⟨w.heap.size, 0, none⟩ = some (.string ByteArray.empty) ∧ W.cell? ⟨w.heap.size, 1, none⟩ = some (.slice (some ⟨b, 0, none⟩) N cap)) ∧ (W.cell? ⟨w.heap.size + 1, 0, none⟩ = some (.string va) ∧ W.cell? ⟨w.heap.size + 1, 1, none⟩ = some (.slice vp vl vc)) ∧ W.cell? ⟨w2.heap.size, 1, none⟩ = some (.slice (some ⟨g, 0, none⟩) N kc) from ⟨⟨hk.cell kc0.1, hk.cell kc0.2.1⟩, ⟨hk.cell kc1.1, hk.cell kc1.2.1⟩, hk.cell kco.2.1⟩))
      have hpg := HPG.out i d p hcc hp
      have same : PS[i]? = qs[i]? → ∀ W', Below wr.heap.size wr W' → Hid (L.length = N ∧ (∃ h, L[0]? = some h ∧ TIn W' (fun k => k < w0.heap.size ∨ g < k) q h) ∧ ∀ k p, (if k < i + 1 then PS[k]? else qs[k]?) = some p → ∃ h, L[k + 1]? = some h ∧ TIn W' (fun k => k < w0.heap.size ∨ g < k) p h) := by
        intro he W' hb
        obtain ⟨h1, ⟨h, h2, h3⟩, h4⟩ := hL.out
        refine ⟨h1, ⟨h, h2, h3.keep (fun k _ hl => hb.block k hl) (fun _ hk _ => hk)⟩, fun k p hkp => ?_⟩
        have hkp' : (if k < i then PS[k]? else qs[k]?) = some p := by
          by_cases e : k = i
          · subst e; rw [if_pos (by omega), he] at hkp; rw [if_neg (by omega)]; exact hkp
          · by_cases e2 : k < i
            · rw [if_pos (by omega)] at hkp; rw [if_pos e2]; exact hkp
            · rw [if_neg (by omega)] at hkp; rw [if_neg e2]; exact hkp
        obtain ⟨h', e1, e2⟩ := h4 k p hkp'
        exact ⟨h', e1, e2.keep (fun k _ hl => hb.block k hl) (fun _ hk _ => hk)⟩
      have SAME := hid same
      clear same
      cases hK : d.isK with
      | false =>
        rw [hK] at CI
        have he : PS[i]? = qs[i]? := by rw [hpg, if_neg (fun e => by rw [hK] at e; cases e.1), hp]
        have HE := hid he
        clear hpg hcc hp kw hK hL he
        go_wp2_with (go_at_call 53; refine (CI.out _ (Kept.refl _)).mono ?_; rintro e w5 ⟨rfl, hb5⟩)
        go_roundw
        case rel => exact ⟨i + 1, L, by omega, by go_num, ownsRow_under HOWN.out hb5, grow_chain2 HGR.out hb5 (World.grownBy.refl _ _), SAME.out HE.out _ hb5⟩
        case measure => simp [intOf]; omega
      | true =>
        rw [hK] at CI
        have hwp := HFT.out i d p hcc hp hK
        obtain ⟨B, hBB⟩ : ∃ B, bnd (decide (i + 1 = n)) xs = B := ⟨_, rfl⟩
        have hBl : B.length ≤ 4 := by rw [← hBB]; unfold bnd; split; exact hxl; simp
        have hBh : hasB B s.toList = true ↔ (i + 1 = cs.length ∧ hasB xs s.toList = true) := by
          rw [← hBB, HSL.out]; unfold bnd
          by_cases e : i + 1 = n
          · rw [decide_eq_true e]; simp [e]
          · rw [decide_eq_false e]; simp [e, hasB]
        rw [hBB] at CB
        have HH := hid (fun (p : Option Addr) c W (hv : SV W p B.length c B) => l2Has_any s B p B.length c W hv (by omega))
        cases hb : hasB B s.toList with
        | true =>
          rw [hb] at HH
          have he : PS[i]? = qs[i]? := by rw [hpg, if_neg (fun e => e.2 (hBh.1 hb)), hp]
          have HE := hid he
          clear hpg hcc hp kw hK hL he hBh hb hBB hwp
          go_wp2_with (first
            | (go_at_call 53; refine (CI.out _ (Kept.refl _)).mono ?_; rintro e w5 ⟨rfl, hb5⟩; have K5 := hid (Kept.of_below hb5 (Nat.le_refl _)); have kb5 := KB.out _ K5.out)
            | (go_at_call 86; have _ := hb5; refine (CB.out _ K5.out).mono ?_; rintro e w6 hp6; obtain ⟨q6, c6, rfl, hsv6, _, hb6⟩ := hp6.full; have HSV6 := hid hsv6; clear hsv6 hp6)
            | (go_at_call 84; have _ := hb6; refine (HH.out _ _ _ HSV6.out).mono ?_; rintro e w7 ⟨rfl, rfl⟩))
          go_roundw
          case rel =>
            have hb56 := hb5.trans (hb6.mono hb5.size)
            exact ⟨i + 1, L, by omega, by go_num, ownsRow_under HOWN.out hb56, grow_chain2 HGR.out hb56 (World.grownBy.refl _ _), SAME.out HE.out _ hb56⟩
          case measure => simp [intOf]; omega
        | false =>
          rw [hb] at HH
          have hnew : PS[i]? = some (Tree.put s.toList vt p) := by rw [hpg, if_pos ⟨hK, fun e => by have := hBh.2 e; rw [hb] at this; cases this⟩]
          have HNEW := hid hnew
          have HC := hid (fun W (hk : Kept w0 W) (hs : w0.heap.size ≤ W.heap.size) => (show Calls Tryz.prog 64 #[.agg #[.string (A (i + 1)).a, .slice (A (i + 1)).p (A (i + 1)).l (A (i + 1)).c], .string s, .agg #[.string va, .slice vp vl vc]] W (PutTPost w0.heap.size (Tree.put s.toList vt p) W) from HIH.out (i + 1) p (by simpa using hp) hwp W hk hs))
          obtain ⟨hl, hhl⟩ : ∃ hl, L[i + 1]? = some hl := ⟨_, List.getElem?_eq_getElem (by rw [hL.out.1]; exact d2')⟩
          have HT2 := hid (two_at L (i + 1) hl hhl)
          have hi2 : (i + 1) * 2 < N * 2 := by omega
          have hi3 : (i + 1) * 2 + 1 < N * 2 := by omega
          clear hpg hcc hp kw hK hBh hb hBB hwp hnew hhl SAME
          go_wp2_with (first
            | (go_at_call 53; refine (CI.out _ (Kept.refl _)).mono ?_; rintro e w5 ⟨rfl, hb5⟩; have K5 := hid (Kept.of_below hb5 (Nat.le_refl _)); have kb5 := KB.out _ K5.out)
            | (go_at_call 86; have _ := hb5; refine (CB.out _ K5.out).mono ?_; rintro e w6 hp6; obtain ⟨q6, c6, rfl, hsv6, _, hb6⟩ := hp6.full; have HSV6 := hid hsv6; have hb56 := hb5.trans (hb6.mono hb5.size); have K6 := hid (Kept.of_below hb56 (Nat.le_refl _)); have kb6 := KB.out _ K6.out; have ca6 := CA.out _ K6.out; have cb6 := CB2.out _ K6.out; clear hsv6 hp6)
            | (go_at_call 84; have _ := hb6; refine (HH.out _ _ _ HSV6.out).mono ?_; rintro e w7 ⟨rfl, rfl⟩))
          have s6 := hb56.size
          have HBD := hid (show Below wr.heap.size wr w6.drew from hb56.trans ((Below.refl wr.heap.size w6).drew))
          have HC1 := hid (HC.out w6.drew (KW.out.below HBD.out hwr) (Nat.le_trans hwr s6))
          clear HC
          go_region_with (go_at_call 64; refine HC1.out.mono ?_; rintro e w8 ⟨h8, rfl, hti8, hb8⟩; have HB8 := hid (HBD.out.trans (hb8.mono s6)); have HTI8 := hid hti8; have K8 := hid (Kept.of_below HB8.out (Nat.le_refl _)); have kb8 := KB.out _ K8.out; have O8 := hid (ownsRow_under HOWN.out HB8.out); have c80 := (O8.out.cellAt ((i + 1) * 2) hi2).trans HT2.out.1; have f80 := O8.out.frozenAt ((i + 1) * 2); have c81 := (O8.out.cellAt ((i + 1) * 2 + 1) hi3).trans HT2.out.2; have f81 := O8.out.frozenAt ((i + 1) * 2 + 1); clear hti8 hb8)
          all_goals
            go_wp2_with fail
            go_roundw
            case rel =>
              have s8 := HB8.out.size
              have st1 := O8.out.stored ((i + 1) * 2) (.string h8.a)
              have st2 := st1.1.stored ((i + 1) * 2 + 1) (.slice h8.p h8.l h8.c)
              have o2 := st2.1
              rw [two_set] at o2
              have hset : ∀ k, k ≠ g → ((w8.setCell ⟨g, (i + 1) * 2, none⟩ (.string h8.a)).setCell ⟨g, (i + 1) * 2 + 1, none⟩ (.slice h8.p h8.l h8.c)).heap[k]? = w8.heap[k]? := fun k hk => by
                rw [Below.heap_setCell _ _ _ _ (by show k ≠ g; exact hk), Below.heap_setCell _ _ _ _ (by show k ≠ g; exact hk)]
              refine ⟨i + 1, L.set (i + 1) h8, by omega, by go_num, o2, grow_chain2 (grow_chain2 HGR.out HB8.out st1.2) (Below.refl _ _) st2.2, ?_⟩
              obtain ⟨h1, ⟨h, h2, h3⟩, h4⟩ := hL.out
              refine ⟨by rw [List.length_set]; exact h1, ⟨h, by rw [List.getElem?_set_ne (by omega)]; exact h2, h3.keep (fun k hk hl => (hset k (by omega)).trans (HB8.out.block k hl)) (fun _ hk _ => hk)⟩, fun k p2 hkp => ?_⟩
              by_cases e : k = i
              · subst e
                rw [if_pos (by omega), HNEW.out] at hkp
                obtain rfl := Option.some.inj hkp
                refine ⟨h8, by rw [List.getElem?_set_self (by rw [h1]; exact d2')], HTI8.out.keep (fun y hy hl => hset y ?_) (fun y hy _ => ?_)⟩
                · have hy' : y < w0.heap.size ∨ w6.heap.size ≤ y := hy
                  omega
                · have hy' : y < w0.heap.size ∨ w6.heap.size ≤ y := hy
                  show y < w0.heap.size ∨ g < y
                  omega
              · have hkp' : (if k < i then PS[k]? else qs[k]?) = some p2 := by
                  by_cases e2 : k < i
                  · rw [if_pos (by omega)] at hkp; rw [if_pos e2]; exact hkp
                  · rw [if_neg (by omega)] at hkp; rw [if_neg e2]; exact hkp
                obtain ⟨h', e1, e2⟩ := h4 k p2 hkp'
                exact ⟨h', by rw [List.getElem?_set_ne (by omega)]; exact e1, e2.keep (fun y hy hl => (hset y (by omega)).trans (HB8.out.block y hl)) (fun _ hy _ => hy)⟩
            case measure => simp [intOf]; omega
    · have hin : i = n := by omega
      go_wp2_with fail
      have hn2 : N ≤ kc ∧ kc ≤ maxLen := by
        rcases HOWN.out.2 with ⟨h1, _⟩ | ⟨g', cap', cur', h1, _, _, h2, h3, _⟩
        · simp at h1
        · simp at h1; omega
      refine bodyPost_ret (v := .agg #[.string ⟨#[]⟩, .slice (some ⟨g, 0, none⟩) N kc]) (by simp [results, Tryz.results64, go_sem, kc2.1, kc2.2.1]) rfl ?_
      obtain ⟨h1, ⟨hq0, h2, h3⟩, h4⟩ := hL.out
      have hset : ∀ k, k ≠ w.heap.size + 2 → ((wr.setCell ⟨w.heap.size + 2, 0, none⟩ (.string ⟨#[]⟩)).setCell ⟨w.heap.size + 2, 1, none⟩ (.slice (some ⟨g, 0, none⟩) N kc)).heap[k]? = wr.heap[k]? := fun k hk => by
        rw [Below.heap_setCell _ _ _ _ (by show k ≠ w.heap.size + 2; exact hk), Below.heap_setCell _ _ _ _ (by show k ≠ w.heap.size + 2; exact hk)]
      have o2 := ownsRow_setCell_below (ownsRow_setCell_below (a := ⟨w.heap.size + 2, 0, none⟩) HOWN.out (by show w.heap.size + 2 < w.heap.size + 3; omega) (.string ⟨#[]⟩)) (a := ⟨w.heap.size + 2, 1, none⟩) (by show w.heap.size + 2 < w.heap.size + 3; omega) (.slice (some ⟨g, 0, none⟩) N kc)
      have hcell : ∀ j h, L[j]? = some h → j < N → ((wr.setCell ⟨w.heap.size + 2, 0, none⟩ (.string ⟨#[]⟩)).setCell ⟨w.heap.size + 2, 1, none⟩ (.slice (some ⟨g, 0, none⟩) N kc)).cell? ⟨g, j * 2, none⟩ = some (.string h.a) ∧ ((wr.setCell ⟨w.heap.size + 2, 0, none⟩ (.string ⟨#[]⟩)).setCell ⟨w.heap.size + 2, 1, none⟩ (.slice (some ⟨g, 0, none⟩) N kc)).cell? ⟨g, j * 2 + 1, none⟩ = some (.slice h.p h.l h.c) := fun j h hj hjn =>
        ⟨(o2.cellAt (j * 2) (by omega)).trans (two_at L j h hj).1, (o2.cellAt (j * 2 + 1) (by omega)).trans (two_at L j h hj).2⟩
      have hget : ∀ j, j < N → L[j]? = some ((L[j]?).getD default) := fun j hj => by
        rw [List.getElem?_eq_getElem (by omega)]; rfl
      have hlen : (q :: PS).length = N := by rw [List.length_cons, HPL.out]; omega
      refine ⟨⟨ByteArray.empty, some ⟨g, 0, none⟩, N, kc⟩, rfl, ?_, ?_⟩
      · have hT := TIn.node (w := (wr.setCell ⟨w.heap.size + 2, 0, none⟩ (.string ⟨#[]⟩)).setCell ⟨w.heap.size + 2, 1, none⟩ (.slice (some ⟨g, 0, none⟩) N kc)) (S := fun k => k < w0.heap.size ∨ w.heap.size ≤ k) (q :: PS) g kc (fun j => (L[j]?).getD default) (by simp) (by rw [hlen]; exact hn2.1) hn2.2 (Or.inr (by omega)) (fun j hj => (hcell j _ (hget j (by omega)) (by omega)).1) (fun j hj => (hcell j _ (hget j (by omega)) (by omega)).2) (fun j p2 hp2 => ?_)
        · rw [hlen] at hT; exact hT
        · cases j with
          | zero =>
            simp at hp2; subst hp2
            rw [show (L[0]?).getD default = hq0 by rw [h2]; rfl]
            exact h3.keep (fun k hk _ => hset k (by omega)) (fun k hk _ => by omega)
          | succ j =>
            have hp3 : PS[j]? = some p2 := by simpa using hp2
            have hjn := (List.getElem?_eq_some_iff.1 hp3).1
            rw [HPL.out] at hjn
            obtain ⟨h', e1, e2⟩ := h4 j p2 (by rw [if_pos (by omega)]; exact hp3)
            rw [show (L[j + 1]?).getD default = h' by rw [e1]; rfl]
            exact e2.keep (fun k hk _ => hset k (by omega)) (fun k hk _ => by omega)
      · exact ((BEL3.out.grown HGR.out (by omega) (fun k e => by simp at e; omega)).setCell (by show w.heap.size ≤ w.heap.size + 2; omega) _).setCell (by show w.heap.size ≤ w.heap.size + 2; omega) _
end Go.Proofs.YthpcmglnooemaaaGreatDoor

namespace Go.Proofs.YthpcmglnooemaaaGreatDoor
open Go.RowKit

/-- THE MODEL's PUT. -/
theorem l2Put_any (s : ByteArray) {w0 : World} {S S2 : Nat → Prop} {t vt : Tree} {h vh : Hd} (ht : TIn w0 S t h) (hv : TIn w0 S2 vt vh) : t.srt ≠ none → PutAsk s w0 vt vh t h := by
  induction ht with
  | atom a hne hm => intro _; exact putT_atom s a hv hne hm
  | node ps b cap A hp hl hc hS hA hB hps ih =>
    intro hwf
    obtain ⟨q, qs, rfl⟩ : ∃ q qs, ps = q :: qs := by cases ps with | nil => simp at hp | cons q qs => exact ⟨q, qs, rfl⟩
    simp only [List.length_cons] at hl hA hB
    exact putT_go (S := S) s hv (n := qs.length) rfl rfl hA hB hps hwf (fun i p hp hw => ih i p hp hw)
end Go.Proofs.YthpcmglnooemaaaGreatDoor
