/- Merged: SizeP, PutQ, SpecU0, PartT, FreeM, ClosV, BindsT, FreeS, ClosedS, SortS. -/
import Derived.Test.YthpcmglnooemaaaGreatDoorWP24
import Derived.Test.YthpcmglnooemaaaGreatDoorWPSSortT0
import Derived.Test.YthpcmglnooemaaaGreatDoorWP15
import Derived.Test.YthpcmglnooemaaaGreatDoorWP11
import Derived.Test.YthpcmglnooemaaaGreatDoorWP14
import Derived.Test.YthpcmglnooemaaaGreatDoorWP19
import Derived.Test.YthpcmglnooemaaaGreatDoorWP12
import Derived.Deep.RegionHeld3
import Derived.Deep.RegionWith
namespace Go.Proofs.YthpcmglnooemaaaGreatDoor
open Go.RowKit

theorem termTree_none {s : ByteArray} (h : termTree s = none) : readTm s = none := by
  have h1 := termTree_read s
  rw [h] at h1
  cases hr : readTm s with
  | none => rfl
  | some m => rw [hr] at h1; simp at h1
theorem termTree_some {s : ByteArray} {t : Tree} (h : termTree s = some t) : parse s = some t ∧ t.srt ≠ none ∧ t.size ≤ 1500 ∧ ∃ m, readTm s = some m ∧ t.tm [] = some m := by
  have h1 := termTree_read s
  rw [h] at h1
  cases hr : readTm s with
  | none => rw [hr] at h1; simp at h1
  | some m =>
    obtain ⟨u, hp, hm, hs, _⟩ := readTm_inv hr
    unfold termTree at h
    rw [hp] at h; simp only at h
    split at h
    · rename_i hc; simp at h; subst h; exact ⟨hp, hc.1, hs, m, rfl, hm⟩
    · simp at h
end Go.Proofs.YthpcmglnooemaaaGreatDoor

namespace Go.Proofs.YthpcmglnooemaaaGreatDoor
open Go.RowKit

theorem depthR_app (s : List UInt8) : ∀ (a b : List ByteArray) (n : Nat), hasB a s = true → depthR s (a ++ b) n = depthR s a n
  | [], b, n, h => by simp [hasB] at h
  | x :: a, b, n, h => by
    rw [List.cons_append, depthR, depthR]
    by_cases e : x.toList = s
    · rw [if_pos e, if_pos e]
    · rw [if_neg e, if_neg e]
      have e' : ¬ s = x.toList := fun h => e h.symm
      exact depthR_app s a b (n + 1) (by simpa [hasB, e'] using h)
theorem depthIn_app {s : List UInt8} {ar bd : List ByteArray} (h : hasB bd s = true) : depthIn s (ar ++ bd) = depthIn s bd := by
  unfold depthIn
  rw [List.reverse_append]
  exact depthR_app s _ _ 0 (by simpa [hasB] using h)
/-- What is closed among some names is the same term among more. -/
def ClosedOk (ar : List ByteArray) (p : Tree) : Prop := ∀ bd m, p.tm bd = some m → p.free bd = [] → p.tm (ar ++ bd) = some m
theorem parts_closed (ar bd : List ByteArray) (xs : List ByteArray) : ∀ (cs : List Sg) (ps : List Tree) (st st' : St) (b : Bool), (∀ p ∈ ps, ClosedOk ar p) → cs.length = ps.length → goodSh cs b = true → (b = false → st.binds = []) → xs = st.binds ++ xsOf cs ps → Tree.frees bd xs cs ps = [] →
    Tree.parts bd cs ps st = some st' → Tree.parts (ar ++ bd) cs ps st = some st'
  | [], [], st, st', b, _, _, _, _, _, _, h => by simp [Tree.parts] at h ⊢; exact h
  | c :: cs, p :: ps, st, st', b, ih, hl, hg, hb, hx, hfr, h => by
    have ih' : ∀ p ∈ ps, ClosedOk ar p := fun q hq => ih q (List.mem_cons_of_mem _ hq)
    have hl' : cs.length = ps.length := by simpa using hl
    rw [Tree.frees, List.append_eq_nil_iff] at hfr
    have kid : ∀ w, xsOf (c :: cs) (p :: ps) = xsOf cs ps → c.isK = true → ((cs.isEmpty || !b) && goodSh cs b) = true →
        (∀ a2 st1, Tree.parts a2 (c :: cs) (p :: ps) st1 = (match addK w (p.tm (a2 ++ st1.binds)) st1 with | some st' => Tree.parts a2 cs ps st' | none => none)) → Tree.parts (ar ++ bd) (c :: cs) (p :: ps) st = some st' := by
      intro w hxo hk hgg hp
      rw [hp] at h ⊢
      cases h1 : addK w (p.tm (bd ++ st.binds)) st with
      | none => rw [h1] at h; simp at h
      | some st1 =>
        rw [h1] at h
        simp only at h
        obtain ⟨m, ht, h3⟩ := addK_inv h1
        simp only [Bool.and_eq_true, Bool.or_eq_true] at hgg
        have hb1 : st1.binds = st.binds := by rw [h3]
        have hi := parts_closed ar bd xs cs ps st1 st' b ih' hl' hgg.2 (fun e => by rw [hb1]; exact hb e) (by rw [hb1, hx, hxo]) hfr.2 h
        have hf := hfr.1
        rw [if_pos hk] at hf
        have hfb : p.free (bd ++ st.binds) = [] := by
          by_cases hce : cs = []
          · rw [if_pos hce] at hf
            have hxb : xs = st.binds := by
              subst hce
              match ps, hl' with
              | [], _ => rw [hx, hxo]; simp [xsOf]
            rw [← hxb]; exact hf
          · rw [if_neg hce] at hf
            have : b = false := by
              rcases hgg.1 with h | h
              · simp at h; exact absurd h hce
              · simpa using h
            rw [hb this, List.append_nil]; exact hf
        have := ih p (List.mem_cons_self ..) _ _ ht hfb
        rw [List.append_assoc, this, ← ht, h1]
        exact hi
    cases c with
    | X =>
      rw [Tree.parts] at h ⊢
      cases h1 : addX p.text st with
      | none => rw [h1] at h; simp at h
      | some st1 =>
        rw [h1] at h
        have h2 := addX_inv h1
        exact parts_closed ar bd xs cs ps st1 st' true ih' hl' (by simpa [goodSh] using hg) (by simp) (by rw [hx, h2.2]; simp [xsOf]) hfr.2 h
    | A =>
      rw [Tree.parts] at h ⊢
      cases h1 : addT true p st with
      | none => rw [h1] at h; simp at h
      | some st1 =>
        rw [h1] at h
        obtain ⟨ty, ht, h2⟩ := addT_inv h1
        exact parts_closed ar bd xs cs ps st1 st' b ih' hl' (by simpa [goodSh] using hg) (fun e => by rw [h2]; exact hb e) (by rw [hx, h2]; simp [xsOf]) hfr.2 h
    | C =>
      rw [Tree.parts] at h ⊢
      cases h1 : addT false p st with
      | none => rw [h1] at h; simp at h
      | some st1 =>
        rw [h1] at h
        obtain ⟨ty, ht, h2⟩ := addT_inv h1
        exact parts_closed ar bd xs cs ps st1 st' b ih' hl' (by simpa [goodSh] using hg) (fun e => by rw [h2]; exact hb e) (by rw [hx, h2]; simp [xsOf]) hfr.2 h
    | V => exact kid true (by simp [xsOf]) rfl (by simpa only [goodSh] using hg) (fun a2 st1 => by rw [Tree.parts]; rfl)
    | M => exact kid false (by simp [xsOf]) rfl (by simpa only [goodSh] using hg) (fun a2 st1 => by rw [Tree.parts]; rfl)
theorem closed_tm (ar : List ByteArray) (t : Tree) : ClosedOk ar t := by
  intro bd m h hf
  match t with
  | .atom x =>
    rw [Tree.tm, atomTm] at h ⊢
    split at h
    · rename_i c; rw [if_pos c]; exact h
    · rename_i c0
      rw [if_neg c0]
      split at h
      · rename_i c
        rw [if_pos c]
        rw [Tree.free] at hf
        have hh : hasB bd x.toList = true := by
          cases e : hasB bd x.toList with
          | true => rfl
          | false => rw [if_pos ⟨c, e⟩] at hf; simp at hf
        rw [depthIn_app hh]; exact h
      · simp at h
  | .node [] => rw [Tree.tm] at h; simp at h
  | .node (q :: ps) =>
    obtain ⟨st, h1, h2, h3, rfl⟩ := tm_node h
    rw [Tree.free] at hf
    have := parts_closed ar bd (xsOf (shape q.text.toList) ps) _ ps St.none st false (fun p hp => closed_tm ar p) h2 (shape_good _) (fun _ => rfl) (by simp [St.none]) hf h3
    rw [Tree.tm, if_neg (fun e => by rcases e with e | e; exact h1 e; exact e h2), this]
termination_by t
decreasing_by
  have := List.sizeOf_lt_of_mem hp
  simp; omega
theorem closed_all {t : Tree} {m : Tm} (h : t.tm [] = some m) (hf : t.free [] = []) : ∀ ar, t.tm ar = some m := fun ar => by
  have := closed_tm ar t [] m h hf
  rwa [List.append_nil] at this

theorem puts_mem {s : List UInt8} {v : Tree} {xs : List ByteArray} : ∀ (cs : List Sg) (ps : List Tree) (x : Tree), x ∈ Tree.puts s v xs cs ps → ∃ p ∈ ps, x = p ∨ x = Tree.put s v p
  | [], ps, x, h => by rw [Tree.puts] at h; exact ⟨x, h, Or.inl rfl⟩
  | _ :: _, [], x, h => by rw [Tree.puts] at h; simp at h
  | c :: cs, p :: ps, x, h => by
    rw [Tree.puts] at h
    rcases List.mem_cons.1 h with h | h
    · refine ⟨p, List.mem_cons_self .., ?_⟩
      split at h
      · exact Or.inr h
      · exact Or.inl h
    · obtain ⟨q, hq, e⟩ := puts_mem cs ps x h
      exact ⟨q, List.mem_cons_of_mem _ hq, e⟩
theorem put_wk {s : List UInt8} {v : Tree} (hv : v.wk) (t : Tree) (h : t.wk) : (Tree.put s v t).wk := by
  match t with
  | .atom x => rw [Tree.put]; split; exact hv; exact h
  | .node [] => rw [Tree.put]; exact h
  | .node (q :: ps) =>
    rw [Tree.wk] at h
    have hm := wks_mem h.2
    rw [Tree.put, Tree.wk]
    refine ⟨by simp, wks_of fun x hx => ?_⟩
    rcases List.mem_cons.1 hx with rfl | hx
    · exact hm _ (List.mem_cons_self ..)
    · obtain ⟨p, hp, e⟩ := puts_mem _ _ _ hx
      have hw := hm p (List.mem_cons_of_mem _ hp)
      rcases e with e | e
      · rw [e]; exact hw
      · rw [e]; exact put_wk hv p hw
termination_by t
decreasing_by
  have := List.sizeOf_lt_of_mem hp
  simp; omega
/-- A tree's text tells the tree. -/
theorem write_inj {t u : Tree} (ht : t.wk) (hu : u.wk) (h : t.write = u.write) : t = u := by
  have h1 := rd_back t.txt (Nat.max t.dp u.dp) t 0 [] ht (Nat.le_max_left _ _) (by rw [List.drop_zero, List.append_nil]; rfl) (by intro b q e; cases e)
  have h2 := rd_back t.txt (Nat.max t.dp u.dp) u 0 [] hu (Nat.le_max_right _ _) (by rw [List.drop_zero, List.append_nil, ← h]; rfl) (by intro b q e; cases e)
  rw [h1] at h2
  simp only [Option.some.injEq, Prod.mk.injEq] at h2
  exact h2.1
theorem parse_txt {T t : Tree} (hT : T.wk) (h : parse T.txt = some t) : t = T :=
  (write_inj hT (parse_wk h).1 (by rw [← parse_write h]; rfl)).symm
/-- WHAT IS READ OF A TREE's TEXT. -/
theorem readTm_txt {T : Tree} {r : Tm} (hT : T.wk) (hr : T.tm [] = some r) : readTm T.txt = if (parse T.txt).isSome = true ∧ r.size ≤ 1500 then some r else none := by
  unfold readTm
  cases hp : parse T.txt with
  | none => simp
  | some t =>
    have := parse_txt hT hp
    subst this
    simp only [Option.isSome_some, true_and]
    rw [← tm_size t [] r hr]
    by_cases h : t.size ≤ 1500
    · rw [if_pos h, if_pos h]; exact hr
    · rw [if_neg h, if_neg h]
end Go.Proofs.YthpcmglnooemaaaGreatDoor

namespace Go.Proofs.YthpcmglnooemaaaGreatDoor
open Go.RowKit

set_option maxRecDepth 100000 in
set_option maxHeartbeats 1000000 in
theorem l2Inner_any (q : Tree) (b n cap i : Nat) (a : ByteArray) (c : Sg) (w : World) (hc0 : w.cell? ⟨b, 0, none⟩ = some (.string q.text)) (hn : 0 < n) (hcs : (shape q.text.toList)[i]? = some c) :
    Calls Tryz.prog 53 #[.agg #[.string a, .slice (some ⟨b, 0, none⟩) n cap], .int .i64 ((i : Int) + 1)] w fun e w' => e = .returned (.bool c.isK) ∧ Below w.heap.size w w' := by
  have HF := hid (fun W => l2Shape_any q.text W)
  have hi4 : i < 4 := by have := (List.getElem?_eq_some_iff.1 hcs).1; have := shape_four q.text.toList; omega
  have hFs := loS_size (shape q.text.toList)
  have HFG := hid (fun hi => loS_get (shape q.text.toList) i c hcs hi)
  have hil := (List.getElem?_eq_some_iff.1 hcs).1
  obtain ⟨F, hF⟩ : ∃ F, loS (shape q.text.toList) = F := ⟨_, rfl⟩
  rw [hF] at HF hFs HFG
  have hif : i < F.size := by omega
  have hfc := HFG.out hif
  have kc : ∀ o, (w.alloc o).cell? ⟨b, 0, none⟩ = some (.string q.text) := fun o => (World.cell?_of_block (w := w) (heap_alloc_old w o (World.block_lt_of_cell? w _ hc0))).trans hc0
  have f3 : F.size ≤ 4 := by have := shape_four q.text.toList; omega
  clear hF hFs HFG hil hcs hc0
  cases c with
  | V =>
    have e1 : F[i] = 118 := hfc
    clear hfc
    go_enter Tryz.func53, Tryz.ntmps53
    go_wp2_with (go_at_call 73; refine (HF.out _).mono ?_; rintro e w2 ⟨rfl, rfl⟩)
    go_ret
    exact ⟨ret_bool rfl, (Below.refl _ _).alloc (Nat.le_refl _) _⟩
  | M =>
    have e1 : F[i] = 109 := hfc
    clear hfc
    go_enter Tryz.func53, Tryz.ntmps53
    go_wp2_with (go_at_call 73; refine (HF.out _).mono ?_; rintro e w2 ⟨rfl, rfl⟩)
    go_ret
    exact ⟨ret_bool rfl, (Below.refl _ _).alloc (Nat.le_refl _) _⟩
  | X =>
    have e1 : F[i] = 120 := hfc
    clear hfc
    go_enter Tryz.func53, Tryz.ntmps53
    go_wp2_with (go_at_call 73; refine (HF.out _).mono ?_; rintro e w2 ⟨rfl, rfl⟩)
    go_ret
    exact ⟨ret_bool rfl, (Below.refl _ _).alloc (Nat.le_refl _) _⟩
  | A =>
    have e1 : F[i] = 97 := hfc
    clear hfc
    go_enter Tryz.func53, Tryz.ntmps53
    go_wp2_with (go_at_call 73; refine (HF.out _).mono ?_; rintro e w2 ⟨rfl, rfl⟩)
    go_ret
    exact ⟨ret_bool rfl, (Below.refl _ _).alloc (Nat.le_refl _) _⟩
  | C =>
    have e1 : F[i] = 99 := hfc
    clear hfc
    go_enter Tryz.func53, Tryz.ntmps53
    go_wp2_with (go_at_call 73; refine (HF.out _).mono ?_; rintro e w2 ⟨rfl, rfl⟩)
    go_ret
    exact ⟨ret_bool rfl, (Below.refl _ _).alloc (Nat.le_refl _) _⟩
end Go.Proofs.YthpcmglnooemaaaGreatDoor

namespace Go.Proofs.YthpcmglnooemaaaGreatDoor
open Go.RowKit

/-- The texts of the parts of a tree in memory. -/
theorem part_texts {w0 : World} {S : Nat → Prop} {q : Tree} {qs : List Tree} {b n : Nat} {A : Nat → Hd} (hn : qs.length = n) (hA : ∀ i, i < n + 1 → w0.cell? ⟨b, i * 2, none⟩ = some (.string (A i).a)) (hps : ∀ i p, (q :: qs)[i]? = some p → TIn w0 S p (A i)) :
    w0.cell? ⟨b, 0, none⟩ = some (.string q.text) ∧ ∀ k p, qs[k]? = some p → w0.cell? ⟨b, (k + 1) * 2, none⟩ = some (.string p.text) := by
  refine ⟨?_, fun k p hp => ?_⟩
  · have := hA 0 (by omega)
    rw [(hps 0 q rfl).text] at this; simpa using this
  · have hk := (List.getElem?_eq_some_iff.1 hp).1
    have := hA (k + 1) (by omega)
    rw [(hps (k + 1) p (by simpa using hp)).text] at this; exact this
end Go.Proofs.YthpcmglnooemaaaGreatDoor

namespace Go.Proofs.YthpcmglnooemaaaGreatDoor
open Go.RowKit

theorem frees_snoc (ks : List Tm) (i : Nat) (k : Tm) (h : ks[i]? = some k) : Tm.frees (ks.take (i + 1)) = Tm.frees (ks.take i) ++ k.free := by
  rw [List.take_add_one, h, Option.toList_some, frees_append, Tm.frees, Tm.frees, List.append_nil]
mutual
theorem free_length : ∀ m : Tm, m.free.length ≤ m.size
  | .mk hd a d bs ty ks => by
    rw [Tm.free, Tm.size]
    have := frees_length ks
    split
    · simp; omega
    · omega
theorem frees_length : ∀ ks : List Tm, (Tm.frees ks).length ≤ Tm.sizes ks
  | [] => by simp [Tm.frees]
  | k :: ks => by
    rw [Tm.frees, Tm.sizes, List.length_append]
    have := free_length k
    have := frees_length ks
    omega
end

set_option maxRecDepth 100000 in
set_option maxHeartbeats 2000000 in
theorem freeNames_any {w0 : World} {S : Nat → Prop} {m : Tm} {b : Nat} (hn : NIn w0 S m b) : m.size ≤ 100000 → ∀ w, Kept w0 w → w0.heap.size ≤ w.heap.size →
    Calls Tryz.prog 51 #[.pointer (some ⟨b, 0, none⟩)] w (OwnS m.free w) := by
  induction hn with
  | mk hd a d bs ty ks b bp bl bc kp kl kc A hS hb hbl hkl hbn hbv hkv hks ih =>
    intro hsz w hk hw
    have hfl := free_length (.mk hd a d bs ty ks)
    have hfk := frees_length ks
    rw [Tm.size] at hsz hfl
    have hlt0 := lt_of_block hb
    have c := cells_of_six ((hk b hlt0).trans hb)
    have c0 := c.1
    have c1 := c.2.1
    have c2 := c.2.2.1
    have c5 := c.2.2.2.2.2.1
    have hkl3 : kl ≤ 100000 := by have := tmsizes_length ks; omega
    have hsk : Tm.sizes ks ≤ 100000 := by omega
    have HKL := hid hkl
    have HKV := hid hkv
    have HIH := hid ih
    have HK := hid hk
    clear ih hk hb hbn hbv hS c hkl hkv hks hbl hfl hsz
    by_cases hf : hd.toList = [110, 97, 109, 101] ∧ d = -1
    · have HF := hid (show (Tm.mk hd a d bs ty ks).free = [a] by rw [Tm.free, if_pos hf])
      obtain ⟨h1, h2⟩ := hf
      have e1 : (hd.toList == [110, 97, 109, 101]) = true := by simpa using h1
      have e2 : (d == -1) = true := by simpa using h2
      clear h1 h2
      go_enter Tryz.func51, Tryz.ntmps51
      go_wp2_with fail
      go_ret
      refine ⟨some ⟨w.heap.size, 0, none⟩, 1, ?_, ?_, ?_⟩
      · rw [HF.out]; rfl
      · rw [HF.out]
        exact ⟨rfl, Or.inr ⟨w.heap.size, 1, #[.string a], rfl, Nat.le_refl _, heap_alloc_new w _, Nat.le_refl _, by decide, rfl, rfl⟩⟩
      · exact (Below.refl _ _).alloc (Nat.le_refl _) _
    · have HF := hid (show (Tm.mk hd a d bs ty ks).free = Tm.frees ks by rw [Tm.free, if_neg hf])
      have hfc : (hd.toList == [110, 97, 109, 101]) = false ∨ ((hd.toList == [110, 97, 109, 101]) = true ∧ (d == -1) = false) := by
        cases e1 : hd.toList == [110, 97, 109, 101] with
        | false => exact Or.inl rfl
        | true =>
          refine Or.inr ⟨rfl, ?_⟩
          cases e2 : d == -1 with
          | false => rfl
          | true => exact absurd ⟨by simpa using e1, by simpa using e2⟩ hf
      clear hf
      obtain ⟨i0, hi0, hz0, hz1, hz2⟩ := info_parts Tryz.infoStr
      rcases hfc with e1 | ⟨e1, e2⟩
      all_goals
        go_enter Tryz.func51, Tryz.ntmps51
        go_wp2_with fail
        go_loopw [3, 28] (fun v u wr => ∃ (i k kc : Nat) (q : Option Addr), i ≤ kl ∧ u = .int .i64 (i : Int) ∧ v = .slice q k kc ∧ k ≤ 100000 ∧ wr.ownsRow w.heap.size 9 1 (.slice q k kc) k ((Tm.frees (ks.take i)).map Value.string) ∧ Below w.heap.size w wr ∧ Hid ((Tm.frees (ks.take i)).length = k)) (fun _ u _ => kl - (intOf u).toNat)
        case atStart => exact ⟨0, 0, 0, none, Nat.zero_le _, rfl, rfl, Nat.zero_le _, World.ownsRow_nil _ _ _ _, Below.refl _ _, hid rfl⟩
        case round =>
          obtain ⟨i, k, kc, q, hi, rfl, rfl, hk5, hown, hbel, hkk⟩ := hrel
          have hz := hbel.size
          have HOWN := hid hown
          have HBEL := hid hbel
          have hkw : Kept w0 wr := HK.out.below hbel (by omega)
          clear hown hbel
          by_cases hlt : i < kl
          · obtain ⟨t, hti⟩ : ∃ t, ks[i]? = some t := ⟨_, List.getElem?_eq_getElem (by rw [HKL.out]; exact hlt)⟩
            obtain ⟨g, rfl, _, hc⟩ := HKV.out i _ (ptrs_get A hlt)
            have hc' := hkw.cell hc
            have htk := tmsizes_take ks (i + 1)
            have hsn := tmsizes_snoc ks i t hti
            have hts : t.size ≤ 100000 := by omega
            have HC := hid (HIH.out i t hti hts wr hkw (by omega))
            have hfs := frees_snoc ks i t hti
            have hfl2 := frees_length (ks.take (i + 1))
            have hln : (Tm.frees (ks.take (i + 1))).length = k + t.free.length := by rw [hfs, List.length_append, hkk.out]
            have hkn : k + t.free.length ≤ 100000 := by omega
            have HFS := hid hfs
            have HLN := hid hln
            clear hc hti htk hsn hkw c0 c1 c2 c5 hfs hfl2 hln
            obtain ⟨F, hFF⟩ : ∃ F, t.free = F := ⟨_, rfl⟩
            rw [hFF] at HC HFS hkn HLN
            clear hFF
            go_wp2_with (first | (at_builtin; have _ := hb1; refine wpList_append_sv _ rfl _ _ 25 rfl w.heap.size 9 i0 (.string ByteArray.empty) 16 Tryz.underlying25 hi0 hz0 hz1 hz2 rfl _ _ _ _ rfl (ownsRow_under HOWN.out hb1) _ _ _ F rfl hsv (by unfold maxLen; omega) (by omega) (by have := hb1.size; omega) ?_; intro q2 k2 w2 ho2 hg2; have HO2 := hid ho2; have HG2 := hid hg2; clear ho2 hg2) | (go_at_call 51; refine HC.out.mono ?_; rintro e w1 hp; obtain ⟨q1, c1, rfl, hsv, hb1⟩ := hp.sv; clear hp))
            go_roundw
            case rel =>
              refine ⟨i + 1, k + F.length, k2, q2, by omega, by go_num, rfl, hkn, ?_, ?_, HLN⟩
              · rw [HFS.out, List.map_append]; exact HO2.out
              · exact (HBEL.out.trans (hb1.mono (by omega))).grown HG2.out (by have := hb1.size; omega) (fun k e => (HOWN.out.lt k e).1)
            case measure => simp [intOf]; omega
          · have hin : i = kl := by omega
            have HE := hid (show ks.take i = ks from List.take_of_length_le (by rw [HKL.out]; omega))
            clear hin
            go_wp2_with fail
            go_ret
            refine ⟨q, kc, ?_, ?_, HBEL.out⟩
            · have := hkk.out
              rw [HE.out] at this; rw [HF.out, this]; rfl
            · have := hkk.out
              have h2 := HOWN.out
              rw [HE.out] at this h2; rw [HF.out, this]; exact h2

end Go.Proofs.YthpcmglnooemaaaGreatDoor

namespace Go.Proofs.YthpcmglnooemaaaGreatDoor
open Go.RowKit

/-- The closed value that a text is. -/
def clV (s : ByteArray) : Option Tm := match readTm s with
  | some m => if m.isVal = true ∧ m.free = [] then some m else none
  | none => none

set_option maxRecDepth 100000 in
set_option maxHeartbeats 2000000 in
theorem readClosedV_any (s : ByteArray) (hs : s.size ≤ 400000000) (w : World) : Calls Tryz.prog 57 #[.string s, .string strV, .slice none 0 0] w (TmPost (clV s) w) := by
  have HC := hid (fun W => readTermWithin_any s hs W)
  have q1 : (strC.toList == strV.toList) = false := by rw [Go.ByteArray.toList_eq, Go.ByteArray.toList_eq]; decide
  have q2 : (!strC.toList == strV.toList) = true := by rw [q1]; rfl
  have q3 : (strV.toList == strV.toList) = true := by simp
  have q4 : (!strV.toList == strV.toList) = false := by rw [q3]; rfl
  cases hr : readTm s with
  | none =>
    rw [hr] at HC
    rw [show clV s = none by rw [clV, hr]]
    clear hr
    go_enter Tryz.func57, Tryz.ntmps57
    go_wp2_with (go_at_call 70; refine (HC.out _).mono ?_; rintro e w1 hp; obtain ⟨rfl, hb1⟩ := hp.none; clear hp)
    go_ret2
    exact ⟨hb1, rfl⟩
  | some m =>
    rw [hr] at HC
    obtain ⟨_, _, _, _, hms⟩ := readTm_inv hr
    have HSO := hid (fun (W : World) (S : Nat → Prop) (a : Nat) (hn : NIn W S m a) => sort_node hn)
    have hcl : clV s = if m.isVal = true ∧ m.free = [] then some m else none := by rw [clV, hr]
    cases hv : m.isVal with
    | false =>
      rw [show clV s = none by rw [hcl, if_neg (fun h => by rw [hv] at h; cases h.1)]]
      rw [hv] at HSO
      simp only [vS] at HSO
      clear hr hv hms hcl
      go_enter Tryz.func57, Tryz.ntmps57
      go_wp2_with (first
        | (go_at_call 43; refine (HSO.out _ _ _ HN.out).mono ?_; rintro e w2 ⟨rfl, rfl⟩)
        | (go_at_call 70; refine (HC.out _).mono ?_; rintro e w1 hp; obtain ⟨a, rfl, hb1, hn1⟩ := hp.some; have HN := hid hn1; clear hp hn1))
      go_ret2
      exact ⟨hb1, rfl⟩
    | true =>
      rw [hv] at HSO
      simp only [vS] at HSO
      obtain ⟨n, hn⟩ : ∃ n, m.free.length = n := ⟨_, rfl⟩
      have HFR := hid (fun (W : World) (S : Nat → Prop) (a : Nat) (hna : NIn W S m a) => (show Calls Tryz.prog 51 #[.pointer (some ⟨a, 0, none⟩)] W fun e w' => ∃ q c, e = .returned (.slice q n c) ∧ Below W.heap.size W w' from (freeNames_any hna (by omega) W (Kept.refl _) (Nat.le_refl _)).mono fun e w' h => by
        obtain ⟨q, c, he, _, _, hb⟩ := h.full
        rw [hn] at he
        exact ⟨q, c, he, hb⟩))
      rcases Nat.eq_zero_or_pos n with h0 | h0
      · have hf : m.free = [] := List.length_eq_zero_iff.1 (hn.trans h0)
        subst h0
        rw [show clV s = some m by rw [hcl, if_pos ⟨hv, hf⟩]]
        clear hr hv hms hcl hf hn
        go_enter Tryz.func57, Tryz.ntmps57
        go_wp2_with (first
          | (go_at_call 51; refine (HFR.out _ _ _ HN.out).mono ?_; rintro e w3 ⟨q3, c3, rfl, hb3⟩)
          | (go_at_call 43; refine (HSO.out _ _ _ HN.out).mono ?_; rintro e w2 ⟨rfl, rfl⟩)
          | (go_at_call 70; refine (HC.out _).mono ?_; rintro e w1 hp; obtain ⟨a, rfl, hb1, hn1⟩ := hp.some; have HN := hid hn1; clear hp hn1))
        go_ret2
        exact ⟨hb1.trans (hb3.mono hb1.size), a, rfl, HN.out.keep (fun k _ hl => hb3.block k hl) (fun k hk _ => hk)⟩
      · have hf : m.free ≠ [] := fun h => by rw [h] at hn; simp at hn; omega
        rw [show clV s = none by rw [hcl, if_neg (fun h => hf h.2)]]
        clear hr hv hms hcl hf hn
        go_enter Tryz.func57, Tryz.ntmps57
        go_wp2_with (first
          | (go_at_call 51; refine (HFR.out _ _ _ HN.out).mono ?_; rintro e w3 ⟨q3, c3, rfl, hb3⟩)
          | (go_at_call 43; refine (HSO.out _ _ _ HN.out).mono ?_; rintro e w2 ⟨rfl, rfl⟩)
          | (go_at_call 70; refine (HC.out _).mono ?_; rintro e w1 hp; obtain ⟨a, rfl, hb1, hn1⟩ := hp.some; have HN := hid hn1; clear hp hn1))
        go_ret2
        exact ⟨hb1.trans (hb3.mono hb1.size), rfl⟩
end Go.Proofs.YthpcmglnooemaaaGreatDoor

namespace Go.Proofs.YthpcmglnooemaaaGreatDoor
open Go.RowKit

/-- The names that are bound in a part. -/
def bnd (last : Bool) (xs : List ByteArray) : List ByteArray := if last = true then xs else []
theorem hasB_bnd (last : Bool) (xs : List ByteArray) (s : List UInt8) : hasB (bnd last xs) s = (last && hasB xs s) := by
  cases last <;> simp [bnd, hasB]
theorem xsOf_length : ∀ (cs : List Sg) (ps : List Tree), (xsOf cs ps).length ≤ ps.length
  | [], _ => by simp [xsOf]
  | c :: cs, [] => by cases c <;> simp [xsOf]
  | c :: cs, p :: ps => by
    have := xsOf_length cs ps
    cases c <;> simp [xsOf] <;> omega
theorem xsOf_step {cs : List Sg} {qs : List Tree} {j : Nat} {c : Sg} {p : Tree} (hc : cs[j]? = some c) (hp : qs[j]? = some p) :
    xsOf (cs.drop j) (qs.drop j) = if c = .X then p.text :: xsOf (cs.drop (j + 1)) (qs.drop (j + 1)) else xsOf (cs.drop (j + 1)) (qs.drop (j + 1)) := by
  rw [drop_at hc, drop_at hp]
  cases c <;> simp [xsOf]
theorem lo_X (c : Sg) (h : c ≠ .X) : ((c.lo.toNat : Int) == 120) = false := by
  cases c <;> first | rfl | exact absurd rfl h
theorem usesL_step {cs : List Sg} {qs : List Tree} {j n : Nat} {c : Sg} {p : Tree} (hn : cs.length = n) (hc : cs[j]? = some c) (hp : qs[j]? = some p) (s : List UInt8) (xs : List ByteArray) :
    Tree.usesL s xs (cs.drop j) (qs.drop j) = (if (c.isK && !hasB (bnd (decide (j + 1 = n)) xs) s) = true then p.uses s else 0) + Tree.usesL s xs (cs.drop (j + 1)) (qs.drop (j + 1)) := by
  have hj := (List.getElem?_eq_some_iff.1 hc).1
  have e : (cs.drop (j + 1) = []) ↔ j + 1 = n := by
    rw [List.drop_eq_nil_iff]; omega
  rw [drop_at hc, drop_at hp, Tree.usesL, hasB_bnd]
  obtain ⟨r, hr⟩ : ∃ r, cs.drop (j + 1) = r := ⟨_, rfl⟩
  rw [hr] at e ⊢
  congr 1
  by_cases hl : j + 1 = n
  · have h1 := e.2 hl
    subst h1
    rw [decide_eq_true hl]
    cases c.isK <;> cases hasB xs s <;> simp
  · have h1 : ¬ r = [] := fun x => hl (e.1 x)
    rw [decide_eq_false hl]
    cases c.isK <;> simp [h1]
mutual
theorem uses_le (s : List UInt8) : ∀ t : Tree, t.uses s ≤ t.wt
  | .atom a => by rw [Tree.uses, Tree.wt]; split <;> omega
  | .node [] => by rw [Tree.uses]; omega
  | .node (h :: ps) => by rw [Tree.uses, Tree.wt, Tree.wts]; have := usesL_le s (xsOf (shape h.text.toList) ps) (shape h.text.toList) ps; omega
theorem usesL_le (s : List UInt8) (xs : List ByteArray) : ∀ (cs : List Sg) (ps : List Tree), Tree.usesL s xs cs ps ≤ Tree.wts ps
  | [], _ => by simp [Tree.usesL]
  | _ :: _, [] => by simp [Tree.usesL]
  | c :: cs, p :: ps => by
    rw [Tree.usesL, Tree.wts]
    have h1 := uses_le s p
    have h2 := usesL_le s xs cs ps
    split <;> omega
end

set_option maxRecDepth 100000 in
set_option maxHeartbeats 1000000 in
theorem l2Binds_not (b N cap : Nat) (a : ByteArray) (j : Int) (w : World) (hj : j < (N : Int) - 1) (hN : N ≤ 100) :
    Calls Tryz.prog 86 #[.agg #[.string a, .slice (some ⟨b, 0, none⟩) N cap], .int .i64 j] w (OwnS [] w) := by
  have HO := hid (own_empty (w.alloc (.cells #[.string a, .slice (some ⟨b, 0, none⟩) N cap] 49)) w.heap.size (by simp))
  go_enter Tryz.func86, Tryz.ntmps86
  go_wp2_with fail
  go_ret
  exact ⟨_, 0, rfl, by simpa using HO.out, ((Below.refl _ _).alloc (Nat.le_refl _) _).alloc (by simp) _⟩

set_option maxRecDepth 100000 in
set_option maxHeartbeats 2000000 in
theorem l2Binds_last (q : Tree) (qs : List Tree) (b N n cap : Nat) (a : ByteArray) (j : Int) (w : World) (hN : N = n + 1) (hn : qs.length = n) (hsl : (shape q.text.toList).length = qs.length) (hj : (N : Int) - 1 ≤ j)
    (hc0 : w.cell? ⟨b, 0, none⟩ = some (.string q.text)) (hT : ∀ k p, qs[k]? = some p → w.cell? ⟨b, (k + 1) * 2, none⟩ = some (.string p.text)) :
    Calls Tryz.prog 86 #[.agg #[.string a, .slice (some ⟨b, 0, none⟩) N cap], .int .i64 j] w (OwnS (xsOf (shape q.text.toList) qs) w) := by
  have HF := hid (fun W => l2Shape_any q.text W)
  have hsz := loS_size (shape q.text.toList)
  have h4 := shape_four q.text.toList
  have HFG := hid (fun i c h hi => loS_get (shape q.text.toList) i c h hi)
  obtain ⟨F, hF⟩ : ∃ F, loS (shape q.text.toList) = F := ⟨_, rfl⟩
  rw [hF] at HF hsz HFG
  have hFn : F.size = n := by omega
  have HFN := hid hFn
  have f3 : F.size ≤ 4 := by omega
  have hN1 : n < N := by omega
  have hN5 : N ≤ 5 := by omega
  have HSL := hid (hsl.trans hn)
  have HN := hid hn
  have HT := hid hT
  have HC0 := hid hc0
  have hd : decide (j < (N : Int) - 1) = false := decide_eq_false (by omega)
  have hlt0 := World.block_lt_of_cell? w _ hc0
  have HO := hid (own_empty (w.alloc (.cells #[.string a, .slice (some ⟨b, 0, none⟩) N cap] 49)) (w.heap.size + 1) (by simp))
  have kc0 : ((w.alloc (.cells #[.string a, .slice (some ⟨b, 0, none⟩) N cap] 49)).alloc (.cells #[] 9)).cell? ⟨b, 0, none⟩ = some (.string q.text) := ((((Kept.refl w).alloc (Nat.le_refl _) _).alloc (by simp) _)).cell hc0
  obtain ⟨cs, hcs⟩ : ∃ cs, shape q.text.toList = cs := ⟨_, rfl⟩
  rw [hcs] at HSL HFG ⊢
  have hFle : n ≤ F.size := by omega
  obtain ⟨i0, hi0, hz0, hz1, hz2⟩ := info_parts Tryz.infoStr
  clear hF hsz hFn hsl hn hT hN hcs h4 hc0
  go_enter Tryz.func86, Tryz.ntmps86
  go_wp2_with (go_at_call 73; refine (HF.out _).mono ?_; rintro e w2 ⟨rfl, rfl⟩)
  go_loopw [5, 7] (fun v u wr => ∃ (i m c g : Nat) (L : List ByteArray), i ≤ F.size ∧ m ≤ i ∧ u = .int .i64 (i : Int) ∧ v = .slice (some ⟨g, 0, none⟩) m c ∧ wr.ownsRow (w.heap.size + 1) 9 1 (.slice (some ⟨g, 0, none⟩) m c) m (L.map Value.string) ∧
      Below (w.heap.size + 1) (w.alloc (.cells #[.string a, .slice (some ⟨b, 0, none⟩) N cap] 49)) wr ∧ Hid (L ++ xsOf (cs.drop i) (qs.drop i) = xsOf cs qs ∧ L.length = m)) (fun _ u _ => F.size - (intOf u).toNat)
  case atStart => exact ⟨0, 0, 0, _, [], Nat.zero_le _, Nat.le_refl _, rfl, rfl, by simpa using HO.out, (Below.refl _ _).alloc (by simp) _, hid ⟨by simp, rfl⟩⟩
  case round =>
    obtain ⟨i, m, c, g, L, hi, hmi, rfl, rfl, hown, hbel, hL⟩ := hrel
    have hz := hbel.size
    simp at hz
    have kc2 := cells_of_pair (block_below (heap_new w (.cells #[.string a, .slice (some ⟨b, 0, none⟩) N cap] 49) w.heap.size rfl) hbel (by omega))
    have kw : Kept w wr := ((Kept.refl w).alloc (Nat.le_refl _) _).below hbel (by omega)
    have HOWN := hid hown
    have HBEL := hid hbel
    clear hown hbel
    by_cases hlt : i < F.size
    · have hin : i < n := by have := HFN.out; omega
      obtain ⟨p, hp⟩ : ∃ p, qs[i]? = some p := ⟨_, List.getElem?_eq_getElem (by rw [HN.out]; exact hin)⟩
      obtain ⟨d, hdc⟩ : ∃ d, cs[i]? = some d := ⟨_, List.getElem?_eq_getElem (by rw [HSL.out]; exact hin)⟩
      have hfc := HFG.out i d hdc hlt
      have ct := kw.cell (HT.out i p hp)
      have hst := xsOf_step hdc hp
      have d2 : i + 1 < N := by omega
      by_cases hX : d = .X
      · subst hX
        rw [if_pos rfl] at hst
        have HL2 := hid (show (L ++ [p.text]) ++ xsOf (cs.drop (i + 1)) (qs.drop (i + 1)) = xsOf cs qs ∧ (L ++ [p.text]).length = m + 1 by
          refine ⟨?_, by simp [hL.out.2]⟩
          rw [List.append_assoc, List.singleton_append, ← hst]; exact hL.out.1)
        have e1 : F[i] = 120 := hfc
        clear hst hfc hdc hp kw hL hd
        go_wp2_with (at_builtin; refine wpList_append_at _ rfl _ _ 25 rfl (w.heap.size + 1) 9 i0 (.string ByteArray.empty) 1 16 Tryz.underlying25 hi0 hz0 hz1 hz2 rfl (by decide) (.slice (some ⟨g, 0, none⟩) m c) m _ rfl (HOWN.out.alloc _) ⟨wr.heap.size, 0, none⟩ 1 1 [.string p.text] rfl rfl (cells_new1 _ _ _ _ rfl) (by intro u hu; simp at hu; subst hu; rfl) (by decide) (by unfold maxLen; omega) (by omega) (by simp; omega) ?_; intro v' w2 hown2 hg2 hw2 hv2; obtain ⟨g2, kc3, rfl⟩ := hv2; have HG := hid hg2; have HO2 := hid hown2; clear hg2 hown2 hw2)
        go_roundw
        case rel =>
          refine ⟨i + 1, m + 1, kc3, g2, L ++ [p.text], by omega, by omega, by go_num, rfl, by rw [List.map_append]; exact HO2.out, ?_, HL2⟩
          exact (HBEL.out.alloc (by omega) _).grown HG.out (by simp; omega) (fun k e => (HOWN.out.lt k e).1)
        case measure => simp [intOf]; omega
      · rw [if_neg hX] at hst
        have e1 : ((F[i].toNat : Int) == 120) = false := by rw [hfc]; exact lo_X d hX
        have HL2 := hid (show L ++ xsOf (cs.drop (i + 1)) (qs.drop (i + 1)) = xsOf cs qs ∧ L.length = m from ⟨by rw [← hst]; exact hL.out.1, hL.out.2⟩)
        clear hst hfc hdc hp kw hL hd hX
        go_wp2_with fail
        go_roundw
        case rel => exact ⟨i + 1, m, c, g, L, by omega, by omega, by go_num, rfl, HOWN.out, HBEL.out, HL2⟩
        case measure => simp [intOf]; omega
    · have he : L = xsOf cs qs := by
        have := hL.out.1
        rw [List.drop_of_length_le (l := cs) (by rw [HSL.out]; have := HFN.out; omega)] at this
        simpa [xsOf] using this
      have HE := hid he
      have HLL := hid hL.out.2
      clear he hL kw hd
      go_wp2_with fail
      go_ret
      refine ⟨some ⟨g, 0, none⟩, c, ?_, ?_, ?_⟩
      · rw [← HE.out, HLL.out]; rfl
      · rw [← HE.out, HLL.out]; exact own_base HOWN.out (by omega)
      · exact ((Below.refl w.heap.size w).alloc (Nat.le_refl _) _).trans (HBEL.out.mono (by omega))

/-- THE NAMES THAT ARE BOUND IN A PART. -/
theorem l2Binds_any (q : Tree) (qs : List Tree) (b N n i cap : Nat) (a : ByteArray) (w : World) (hN : N = n + 1) (hn : qs.length = n) (hi : i < n) (hsl : (shape q.text.toList).length = qs.length)
    (hc0 : w.cell? ⟨b, 0, none⟩ = some (.string q.text)) (hT : ∀ k p, qs[k]? = some p → w.cell? ⟨b, (k + 1) * 2, none⟩ = some (.string p.text)) :
    Calls Tryz.prog 86 #[.agg #[.string a, .slice (some ⟨b, 0, none⟩) N cap], .int .i64 ((i : Int) + 1)] w (OwnS (bnd (decide (i + 1 = n)) (xsOf (shape q.text.toList) qs)) w) := by
  have h4 := shape_four q.text.toList
  by_cases hl : i + 1 = n
  · rw [decide_eq_true hl]
    exact l2Binds_last q qs b N n cap a _ w hN hn hsl (by omega) hc0 hT
  · rw [decide_eq_false hl]
    exact l2Binds_not b N cap a _ w (by omega) (by omega)
end Go.Proofs.YthpcmglnooemaaaGreatDoor

namespace Go.Proofs.YthpcmglnooemaaaGreatDoor
open Go.RowKit

theorem frees_step {cs : List Sg} {qs : List Tree} {j n : Nat} {c : Sg} {p : Tree} (hn : cs.length = n) (hc : cs[j]? = some c) (hp : qs[j]? = some p) (bd xs : List ByteArray) :
    Tree.frees bd xs (cs.drop j) (qs.drop j) = (if c.isK = true then p.free (bd ++ bnd (decide (j + 1 = n)) xs) else []) ++ Tree.frees bd xs (cs.drop (j + 1)) (qs.drop (j + 1)) := by
  have hj := (List.getElem?_eq_some_iff.1 hc).1
  have e : (cs.drop (j + 1) = []) ↔ j + 1 = n := by
    rw [List.drop_eq_nil_iff]; omega
  rw [drop_at hc, drop_at hp, Tree.frees]
  obtain ⟨r, hr⟩ : ∃ r, cs.drop (j + 1) = r := ⟨_, rfl⟩
  rw [hr] at e ⊢
  congr 1
  by_cases hl : j + 1 = n
  · have h1 := e.2 hl
    subst h1
    rw [decide_eq_true hl]
    simp [bnd]
  · have h1 : ¬ r = [] := fun x => hl (e.1 x)
    rw [decide_eq_false hl]
    simp [h1, bnd]
mutual
theorem tfree_le (bd : List ByteArray) : ∀ t : Tree, (t.free bd).length ≤ t.wt
  | .atom a => by rw [Tree.free, Tree.wt]; split <;> simp
  | .node [] => by rw [Tree.free]; simp
  | .node (h :: ps) => by rw [Tree.free, Tree.wt, Tree.wts]; have := tfrees_le bd (xsOf (shape h.text.toList) ps) (shape h.text.toList) ps; omega
theorem tfrees_le (bd xs : List ByteArray) : ∀ (cs : List Sg) (ps : List Tree), (Tree.frees bd xs cs ps).length ≤ Tree.wts ps
  | [], _ => by simp [Tree.frees]
  | _ :: _, [] => by simp [Tree.frees]
  | c :: cs, p :: ps => by
    rw [Tree.frees, Tree.wts, List.length_append]
    have h0 := tfrees_le bd xs cs ps
    have h1 := tfree_le bd p
    have h2 := tfree_le (bd ++ xs) p
    split
    · split <;> omega
    · simp; omega
end
theorem wts_at {qs : List Tree} {j : Nat} {p : Tree} (hp : qs[j]? = some p) : Tree.wts (qs.drop j) = p.wt + Tree.wts (qs.drop (j + 1)) := by
  rw [drop_at hp, Tree.wts]
/-- What l2Free is asked. -/
def FreeAsk (w0 : World) (t : Tree) (h : Hd) : Prop := ∀ (bd L : List ByteArray) (bp lp : Option Addr) (bn bc ln lc base : Nat) (w : World), Kept w0 w → w0.heap.size ≤ w.heap.size → w0.heap.size ≤ base → base ≤ w.heap.size →
  SV w bp bn bc bd → (∀ g o, bp = some ⟨g, o, none⟩ → (Value.slice lp ln lc).ownBlock ≠ some g ∧ g < w.heap.size) → w.ownsRow base 9 1 (.slice lp ln lc) ln (L.map Value.string) →
  bn + 4 * t.wt ≤ 100000 → ln + t.wt ≤ 50000 →
  Calls Tryz.prog 56 #[.agg #[.string h.a, .slice h.p h.l h.c], .slice bp bn bc, .slice lp ln lc] w (FreePost base (.slice lp ln lc) (dedB L (t.free bd)) w)

set_option maxRecDepth 100000 in
set_option maxHeartbeats 2000000 in
theorem free_atom (w0 : World) (a : ByteArray) (hne : a.size ≠ 0) (hm : a.size ≤ 400000000) : FreeAsk w0 (.atom a) ⟨a, none, 0, 0⟩ := by
  intro bd L bp lp bn bc ln lc base w hk hw hb0 hbw hsv hap hown hbn hln
  have he := isEmpty_not a hne
  have HN := hid (fun W => l2Name_any a hm W)
  have hll : L.length = ln := by have := hown.1; simpa using this
  have k1 : Kept w (w.alloc (.cells #[.string a, .slice none 0 0] 49)) := (Kept.refl w).alloc (Nat.le_refl _) _
  have HB := hid (fun W (hv : SV W bp bn bc bd) => l2Has_any a bd bp bn bc W hv (by omega))
  have HL := hid (fun W (hv : SV W lp ln lc L) => l2Has_any a L lp ln lc W hv (by omega))
  have HSV := hid (hsv.kept k1)
  have HSL := hid ((sv_own hown).kept k1)
  have HOWN := hid (hown.alloc (.cells #[.string a, .slice none 0 0] 49))
  have HLL := hid hll
  have hlb := hid (fun g e => hown.lt g e)
  have hfr : (Tree.atom a).free bd = if nameB a.toList = true ∧ hasB bd a.toList = false then [a] else [] := by rw [Tree.free]
  have same : ∀ (F : List ByteArray), dedB L F = L → FreePost base (.slice lp ln lc) (dedB L F) w (.returned (.slice lp ln lc)) (w.alloc (.cells #[.string a, .slice none 0 0] 49)) := by
    intro F hF
    rw [hF]
    refine ⟨lp, lc, by rw [HLL.out], by rw [HLL.out]; exact HOWN.out, ?_, Or.inl (by rw [HLL.out])⟩
    exact Below.grownBy ((Below.refl w.heap.size w).alloc (Nat.le_refl _) _) (Nat.le_refl _)
  have SAME := hid same
  obtain ⟨i0, hi0, hz0, hz1, hz2⟩ := info_parts Tryz.infoStr
  clear hsv hown hap hk hw hb0 k1 hll same
  cases e2 : nameB a.toList with
  | false =>
    rw [e2] at HN hfr
    have HF := hid (show (Tree.atom a).free bd = [] by rw [hfr, if_neg (fun h => by cases h.1)])
    clear hfr e2
    go_enter Tryz.func56, Tryz.ntmps56
    go_wp2_with (go_at_call 49; refine (HN.out _).mono ?_; rintro e w1 ⟨rfl, rfl⟩)
    go_ret
    exact SAME.out _ (by rw [HF.out]; rfl)
  | true =>
    rw [e2] at HN hfr
    cases e3 : hasB bd a.toList with
    | true =>
      rw [e3] at HB hfr
      have HF := hid (show (Tree.atom a).free bd = [] by rw [hfr, if_neg (fun h => by cases h.2)])
      clear hfr e2 e3
      go_enter Tryz.func56, Tryz.ntmps56
      go_wp2_with (first | (go_at_call 49; refine (HN.out _).mono ?_; rintro e w1 ⟨rfl, rfl⟩) | (go_at_call 84; refine (HB.out _ HSV.out).mono ?_; rintro e w2 ⟨rfl, rfl⟩))
      go_ret
      exact SAME.out _ (by rw [HF.out]; rfl)
    | false =>
      rw [e3] at HB hfr
      cases e4 : hasB L a.toList with
      | true =>
        rw [e4] at HL
        have HF := hid (show dedB L ((Tree.atom a).free bd) = L by rw [hfr, if_pos ⟨rfl, rfl⟩, dedB, if_pos e4, dedB])
        clear hfr e2 e3 e4
        go_enter Tryz.func56, Tryz.ntmps56
        go_wp2_with (first | (go_at_call 49; refine (HN.out _).mono ?_; rintro e w1 ⟨rfl, rfl⟩) | (go_at_call 84; first | (refine (HB.out _ HSV.out).mono ?_; clear HB; rintro e w2 ⟨rfl, rfl⟩) | (refine (HL.out _ HSL.out).mono ?_; rintro e w2 ⟨rfl, rfl⟩)))
        go_ret
        exact SAME.out _ HF.out
      | false =>
        rw [e4] at HL
        have HF := hid (show dedB L ((Tree.atom a).free bd) = L ++ [a] by rw [hfr, if_pos ⟨rfl, rfl⟩, dedB, if_neg (by rw [e4]; simp), dedB])
        clear hfr e2 e3 e4
        go_enter Tryz.func56, Tryz.ntmps56
        go_wp2_with (first | (at_builtin; refine wpList_append_at _ rfl _ _ 25 rfl base 9 i0 (.string ByteArray.empty) 1 16 Tryz.underlying25 hi0 hz0 hz1 hz2 rfl (by decide) (.slice lp ln lc) ln _ rfl (HOWN.out.alloc _) ⟨w.heap.size + 1, 0, none⟩ 1 1 [.string a] rfl rfl (cells_new1 _ _ _ _ (by simp)) (by intro u hu; simp at hu; subst hu; rfl) (by decide) (by unfold maxLen; omega) (by omega) (by simp; omega) ?_; intro v' w2 hown2 hg2 hw2 hv2; obtain ⟨g2, kc2, rfl⟩ := hv2; have HG := hid hg2; have HO := hid hown2; have HW := hid hw2; clear hg2 hown2 hw2) | (go_at_call 49; refine (HN.out _).mono ?_; rintro e w1 ⟨rfl, rfl⟩) | (go_at_call 84; first | (refine (HB.out _ HSV.out).mono ?_; clear HB; rintro e w2 ⟨rfl, rfl⟩) | (refine (HL.out _ HSL.out).mono ?_; rintro e w2 ⟨rfl, rfl⟩)))
        go_ret
        rw [HF.out]
        refine ⟨some ⟨g2, 0, none⟩, kc2, ?_, ?_, ?_, ?_⟩
        · rw [List.length_append, HLL.out]; rfl
        · rw [List.length_append, HLL.out, List.map_append]; exact HO.out
        · refine ⟨HG.out.os, HG.out.tape, HG.out.output, by have := HG.out.size; simp at this; omega, fun k hk hkr => ?_⟩
          rw [HG.out.block k (by simp; omega) hkr]
          exact ((Kept.refl w).alloc (Nat.le_refl _) _ |>.alloc (by simp) _) k hk
        · rcases HW.out with e | e
          · left; rw [List.length_append, HLL.out]; exact e
          · right; refine ⟨_, by rw [List.length_append, HLL.out]; exact e, by simp; omega⟩

set_option maxRecDepth 100000 in
set_option maxHeartbeats 8000000 in
theorem free_go {w0 : World} {S : Nat → Prop} {q : Tree} {qs : List Tree} {b cap n N : Nat} {A : Nat → Hd} (hn : qs.length = n) (hN : N = n + 1)
    (hA : ∀ i, i < n + 1 → w0.cell? ⟨b, i * 2, none⟩ = some (.string (A i).a)) (hB : ∀ i, i < n + 1 → w0.cell? ⟨b, i * 2 + 1, none⟩ = some (.slice (A i).p (A i).l (A i).c))
    (hps : ∀ i p, (q :: qs)[i]? = some p → TIn w0 S p (A i)) (hwf : Tree.srt (.node (q :: qs)) ≠ none)
    (ih : ∀ i p, (q :: qs)[i]? = some p → p.srt ≠ none → FreeAsk w0 p (A i)) : FreeAsk w0 (.node (q :: qs)) ⟨ByteArray.empty, some ⟨b, 0, none⟩, N, cap⟩ := by
  intro bd L bp lp bn bc ln lc base w hk hw hb0 hbw hsv hap hown hbn hln
  obtain ⟨h0, hsl, hft⟩ := wf_node hwf
  have h4 := shape_four q.text.toList
  obtain ⟨ht0, htk⟩ := part_texts hn hA hps
  have hbl : bd.length = bn := hsv.1
  have hll : L.length = ln := by have := hown.1; simpa using this
  have HFT := hid (fun i c p hc hp hk => fit1_wf (fits_get (shape q.text.toList) qs i c p hft hc hp) hk)
  have HI := hid (fun i c W h0 hc => l2Inner_any q b N cap i ByteArray.empty c W h0 (by omega) hc)
  have HBN := hid (fun i W hi h0 ht => l2Binds_any q qs b N n i cap ByteArray.empty W hN hn hi hsl h0 ht)
  have hxl : (xsOf (shape q.text.toList) qs).length ≤ 4 := by have := xsOf_length (shape q.text.toList) qs; omega
  rw [Tree.wt, Tree.wts] at hbn hln
  have hq1 := wt_pos q
  have HR := hid (show (Tree.node (q :: qs)).free bd = Tree.frees bd (xsOf (shape q.text.toList) qs) (shape q.text.toList) qs by rw [Tree.free])
  obtain ⟨cs, hcs⟩ : ∃ cs, shape q.text.toList = cs := ⟨_, rfl⟩
  rw [hcs] at HFT HI HBN HR hxl hsl h4
  obtain ⟨xs, hxs⟩ : ∃ xs, xsOf cs qs = xs := ⟨_, rfl⟩
  rw [hxs] at HBN HR hxl
  obtain ⟨R, hR⟩ : ∃ R, dedB L ((Tree.node (q :: qs)).free bd) = R := ⟨_, rfl⟩
  rw [hR]
  have HRR := hid (show dedB L (Tree.frees bd xs cs qs) = R by rw [← HR.out]; exact hR)
  have hn4 : n ≤ 4 := by omega
  have hN1 : n < N := by omega
  have hN2 : N ≤ n + 1 := by omega
  have hN5 : N ≤ 5 := by omega
  have hqw : ln + Tree.wts qs ≤ 50000 := by omega
  have hbq : bn + 4 + 4 * Tree.wts qs ≤ 100000 := by omega
  obtain ⟨W0, hW0⟩ : ∃ W0, W0 = w.alloc (.cells #[.string ByteArray.empty, .slice (some ⟨b, 0, none⟩) N cap] 49) := ⟨_, rfl⟩
  have hW0s : W0.heap.size = w.heap.size + 1 := by rw [hW0]; simp
  have hbx0 := heap_new w (.cells #[.string ByteArray.empty, .slice (some ⟨b, 0, none⟩) N cap] 49) w.heap.size rfl
  rw [← hW0] at hbx0
  have hkW : Kept w0 W0 := by rw [hW0]; exact hk.alloc hw _
  have hsv0 : SV W0 bp bn bc bd := by rw [hW0]; exact hsv.kept ((Kept.refl w).alloc (Nat.le_refl _) _)
  have hown0 : W0.ownsRow base 9 1 (.slice lp ln lc) ln (L.map Value.string) := by rw [hW0]; exact hown.alloc _
  have hbelw : Below w.heap.size w W0 := by rw [hW0]; exact (Below.refl _ _).alloc (Nat.le_refl _) _
  have HBW := hid hbelw
  have HBX := hid hbx0
  have HSL := hid (hsl.trans hn)
  have HN := hid hn
  have HT0 := hid ht0
  have HTK := hid htk
  have HA := hid hA
  have HB := hid hB
  have HIH := hid ih
  have HK := hid hkW
  have HSV := hid hsv0
  have HAP := hid hap
  have HOWN0 := hid hown0
  have HLT := hid (fun g e => hown.lt g e)
  have HW0 := hid hW0
  have HLL := hid hll
  have HBL := hid hbl
  have hWs2 : w.heap.size < W0.heap.size := by omega
  have HWS := hid hW0s
  clear hn hN hA hB hps hwf ih hk h0 hsl hft h4 ht0 htk hcs hxs hR hsv hown hap hkW hsv0 hown0 hW0 hbx0 hll hbl hbn hln hq1 HR hbelw hW0s
  go_enter Tryz.func56, Tryz.ntmps56
  go_wp2_with fail
  rw [← HW0.out]
  go_loopw [2, 7] (fun v u wr => ∃ (i m c : Nat) (q : Option Addr) (L1 : List ByteArray), i ≤ n ∧ u = .int .i64 ((i : Int) + 1) ∧ v = .slice q m c ∧ wr.ownsRow base 9 1 (.slice q m c) m (L1.map Value.string) ∧ W0.grownBy wr (Value.slice lp ln lc).ownBlock ∧
      ((Value.slice q m c).ownBlock = (Value.slice lp ln lc).ownBlock ∨ ∃ g, (Value.slice q m c).ownBlock = some g ∧ W0.heap.size ≤ g) ∧ m + Tree.wts (qs.drop i) ≤ 50000 ∧ Hid (L1.length = m ∧ dedB L1 (Tree.frees bd xs (cs.drop i) (qs.drop i)) = R)) (fun _ u _ => N - (intOf u).toNat)
  case atStart =>
    exact ⟨0, ln, lc, lp, L, Nat.zero_le _, rfl, rfl, HOWN0.out, World.grownBy.refl _ _, Or.inl rfl, by simpa using hqw, hid ⟨HLL.out, by simpa using HRR.out⟩⟩
  case round =>
    obtain ⟨i, m, c, q1, L1, hi, rfl, rfl, hown, hgr, hob, hmw, hL⟩ := hrel
    have hz := hgr.size
    have hbxr : wr.heap[w.heap.size]? = some (.cells #[.string ByteArray.empty, .slice (some ⟨b, 0, none⟩) N cap] 49 (0, 0)) := block_grown HBX.out hgr (fun e => by have := (HLT.out _ e).2; omega)
    have kc2 := cells_of_pair hbxr
    have kw : Kept w0 wr := fun k hk => (hgr.block k (by omega) (fun e => by have := (HLT.out k e.symm).1; omega)).trans (HK.out k hk)
    have hwr : w0.heap.size ≤ wr.heap.size := by omega
    have hsvr := HSV.out.grown hgr (fun g o e => (HAP.out g o e).1)
    have hapr : ∀ g o, bp = some ⟨g, o, none⟩ → (Value.slice q1 m c).ownBlock ≠ some g ∧ g < wr.heap.size := by
      intro g o e
      have h1 := HAP.out g o e
      refine ⟨?_, by omega⟩
      rcases hob with e2 | ⟨g2, e2, h2⟩
      · rw [e2]; exact h1.1
      · rw [e2]; intro e3; have := Option.some.inj e3; omega
    have HOB := hid hob
    have HGR := hid hgr
    have HOWN := hid hown
    have HSVR := hid hsvr
    have HAPR := hid hapr
    have KW := hid kw
    clear hown hgr hob hsvr hapr hbxr
    by_cases hlt : i < n
    · obtain ⟨p, hp⟩ : ∃ p, qs[i]? = some p := ⟨_, List.getElem?_eq_getElem (by rw [HN.out]; exact hlt)⟩
      obtain ⟨d, hcc⟩ : ∃ d, cs[i]? = some d := ⟨_, List.getElem?_eq_getElem (by rw [HSL.out]; exact hlt)⟩
      have d2 : (i : Int) + 1 < (N : Int) := by omega
      have d2' : i + 1 < N := by omega
      have hst := frees_step HSL.out hcc hp bd xs
      have hwd := wts_at hp
      have CI := hid (fun W (hk : Kept wr W) => HI.out i d W (hk.cell (kw.cell HT0.out)) hcc)
      have CB := hid (fun W (hk : Kept wr W) => HBN.out i W hlt (hk.cell (kw.cell HT0.out)) (fun k p hp => hk.cell (kw.cell (HTK.out k p hp))))
      have CA := hid (fun W (hk : Kept wr W) => hk.cell (kw.cell (HA.out (i + 1) (by omega))))
      have CB2 := hid (fun W (hk : Kept wr W) => hk.cell (kw.cell (HB.out (i + 1) (by omega))))
      have kc3 := hid (fun W (hk : Kept wr W) => (show W.cell? ⟨w.heap.size, 0, none⟩ = some (.string ByteArray.empty) ∧ W.cell? ⟨w.heap.size, 1, none⟩ = some (.slice (some ⟨b, 0, none⟩) N cap) from ⟨hk.cell kc2.1, hk.cell kc2.2.1⟩))
      cases hK : d.isK with
      | false =>
        rw [hK] at CI
        have HL2 := hid (show L1.length = m ∧ dedB L1 (Tree.frees bd xs (cs.drop (i + 1)) (qs.drop (i + 1))) = R by
          have := hL.out; rw [hst, hK] at this; simpa using this)
        have hmw2 : m + Tree.wts (qs.drop (i + 1)) ≤ 50000 := by omega
        clear hst hL hp hcc kw hK hwd hmw
        go_wp2_with (go_at_call 53; refine (CI.out _ (Kept.refl _)).mono ?_; rintro e w1 ⟨rfl, hb1⟩)
        go_roundw
        case rel =>
          refine ⟨i + 1, m, c, q1, L1, by omega, by go_num, rfl, ownsRow_under HOWN.out hb1, ?_, HOB.out, hmw2, HL2⟩
          exact grow_chain HGR.out hb1 (World.grownBy.refl _ _) (Or.inl rfl)
        case measure => simp [intOf]; omega
      | true =>
        rw [hK] at CI
        have hwp := HFT.out i d p hcc hp hK
        have hpw : p.wt ≤ Tree.wts qs := wt_part qs i p hp
        obtain ⟨B, hBB⟩ : ∃ B, bnd (decide (i + 1 = n)) xs = B := ⟨_, rfl⟩
        have hBl : B.length ≤ 4 := by rw [← hBB]; unfold bnd; split; exact hxl; simp
        rw [hBB] at CB hst
        have hL2 : dedB L1 (Tree.frees bd xs (cs.drop i) (qs.drop i)) = dedB (dedB L1 (p.free (bd ++ B))) (Tree.frees bd xs (cs.drop (i + 1)) (qs.drop (i + 1))) := by
          rw [hst, if_pos hK, dedB_append]
        have hdl := dedB_le (p.free (bd ++ B)) L1
        have hfl := tfree_le (bd ++ B) p
        obtain ⟨L2, hLL2⟩ : ∃ L2, dedB L1 (p.free (bd ++ B)) = L2 := ⟨_, rfl⟩
        have hL2l : L2.length + Tree.wts (qs.drop (i + 1)) ≤ 50000 := by
          rw [← hLL2]; have := hL.out.1; omega
        have HL2 := hid (show dedB L2 (Tree.frees bd xs (cs.drop (i + 1)) (qs.drop (i + 1))) = R by rw [← hLL2, ← hL2]; exact hL.out.2)
        have hBn : (bd ++ B).length = bn + B.length := by rw [List.length_append, HBL.out]
        have HC := hid (fun W (hkk : Kept wr W) (hs : wr.heap.size ≤ W.heap.size) (bp2 : Option Addr) bc2 (hv : SV W bp2 (bn + B.length) bc2 (bd ++ B)) (ha : ∀ g o, bp2 = some ⟨g, o, none⟩ → (Value.slice q1 m c).ownBlock ≠ some g ∧ g < W.heap.size) (ho : W.ownsRow base 9 1 (.slice q1 m c) m (L1.map Value.string)) =>
          (show Calls Tryz.prog 56 #[.agg #[.string (A (i + 1)).a, .slice (A (i + 1)).p (A (i + 1)).l (A (i + 1)).c], .slice bp2 (bn + B.length) bc2, .slice q1 m c] W (FreePost base (.slice q1 m c) L2 W) from by
            rw [← hLL2]
            exact HIH.out (i + 1) p (by simpa using hp) hwp (bd ++ B) L1 bp2 q1 (bn + B.length) bc2 m c base W (kw.trans hkk hwr) (by omega) hb0 (by omega) hv ha ho (by omega) (by omega)))
        have HWT := hid (fun (p1 p2 : Option Addr) c1 c2 W hv1 hv2 => l2With_any bd B p1 p2 bn B.length c1 c2 W hv1 hv2 (by omega) (by omega))
        rw [show (OwnS (bd ++ B)) = (fun (w : World) (e : Ending) (w' : World) => OwnS (bd ++ B) w e w') from rfl] at HWT
        clear hst hL hp hcc kw hK hwp hwd hmw hdl hfl hLL2 hL2 hBB hpw
        have HBN2 := hid hBn
        clear hBn
        have ca := CA.out wr (Kept.refl _)
        have cb := CB2.out wr (Kept.refl _)
        go_wp2_with (go_at_call 53; refine (CI.out _ (Kept.refl _)).mono ?_; rintro e w1 ⟨rfl, hb1⟩; have k1 := kc3.out _ (Kept.of_below hb1 (Nat.le_refl _)); have ca1 := CA.out _ (Kept.of_below hb1 (Nat.le_refl _)); have cb1 := CB2.out _ (Kept.of_below hb1 (Nat.le_refl _)))
        have s1 := hb1.size
        have hbd1 : Below wr.heap.size wr w1.drew := hb1.trans ((Below.refl wr.heap.size w1).drew)
        have K1 := hid (Kept.of_below hbd1 (Nat.le_refl _))
        have HB1 := hid hbd1
        have S1 := hid (show wr.heap.size ≤ w1.drew.heap.size from s1)
        clear hb1 hbd1
        go_region_with (first
          | (go_at_call 56; have _ := hb3; refine (HC.out _ K3.out S3.out _ _ hsv3 AP3.out OW3.out).mono ?_; rintro e w4 hp4; obtain ⟨q4, c4, rfl, ho4, hg4, hob4⟩ := hp4; have HO4 := hid ho4; have HG4 := hid hg4; have HOB4 := hid hob4; clear ho4 hg4 hob4)
          | (go_at_call 85; have _ := hb2; refine (HWT.out _ _ _ _ _ (HSVR.out.kept K2.out) hsv2).mono ?_; rintro e w3 hp3; obtain ⟨q3, c3, he3, hsv3, hlt3, hb3⟩ := hp3.full; rw [HBN2.out] at he3 hsv3; subst he3; have K3 := hid (K2.out.below hb3 S2.out); have S3 := hid (Nat.le_trans S2.out hb3.size); have k3 := kc3.out _ K3.out; have ca3 := CA.out _ K3.out; have cb3 := CB2.out _ K3.out; have HB3 := hid (HB2.out.trans (hb3.mono S2.out)); have OW3 := hid (ownsRow_under HOWN.out HB3.out); have AP3 := hid (fun g o e => And.intro (fun x => Nat.lt_irrefl _ (Nat.lt_of_lt_of_le (HOWN.out.lt g x).2 (Nat.le_trans S2.out (hlt3 g o e).1))) (hlt3 g o e).2); clear hlt3)
          | (go_at_call 86; refine (CB.out _ K1.out).mono ?_; rintro e w2 hp2; obtain ⟨q2, c2, rfl, hsv2, _, hb2⟩ := hp2.full; have K2 := hid (K1.out.below hb2 S1.out); have S2 := hid (Nat.le_trans S1.out hb2.size); have HB2 := hid (HB1.out.trans (hb2.mono S1.out)); have k2 := kc3.out _ K2.out; have ca2 := CA.out _ K2.out; have cb2 := CB2.out _ K2.out))
        all_goals
          go_wp2_with fail
          go_roundw
          case rel =>
            refine ⟨i + 1, L2.length, c4, q4, L2, by omega, by go_num, rfl, HO4.out, grow_chain HGR.out HB3.out HG4.out HOB.out, ?_, hL2l, hid ⟨rfl, HL2.out⟩⟩
            have s3 := S3.out
            rcases HOB4.out with e | ⟨g, e, hg⟩
            · rcases HOB.out with e2 | ⟨g, e2, hg⟩
              · exact Or.inl (e.trans e2)
              · exact Or.inr ⟨g, e.trans e2, hg⟩
            · exact Or.inr ⟨g, e, by omega⟩
          case measure => simp [intOf]; omega
    · have he : R = L1 := by
        have := hL.out.2
        rw [List.drop_of_length_le (l := cs) (by rw [HSL.out]; omega)] at this
        simpa [Tree.frees, dedB] using this.symm
      have HE := hid he
      have HLL1 := hid hL.out.1
      clear he hL kw
      go_wp2_with fail
      go_ret
      refine ⟨q1, c, ?_, ?_, ?_, ?_⟩
      · rw [HE.out, HLL1.out]; rfl
      · rw [HE.out, HLL1.out]; exact HOWN.out
      · exact grow_chain (Below.grownBy HBW.out (Nat.le_refl _)) (Below.refl _ _) HGR.out (Or.inl rfl)
      · rw [HE.out, HLL1.out]
        rcases HOB.out with e | ⟨g, e, hg⟩
        · exact Or.inl e
        · exact Or.inr ⟨g, e, by omega⟩

/-- THE NAMES THAT STAND FREE, BY THE MODEL. -/
theorem l2Free_any {w0 : World} {S : Nat → Prop} {t : Tree} {h : Hd} (ht : TIn w0 S t h) : t.wt ≤ 12000 → t.ok → t.srt ≠ none → FreeAsk w0 t h := by
  induction ht with
  | atom a hne hm => intro _ hok _; exact free_atom w0 a hne (by have := hok.1; omega)
  | node ps b cap A hp hl hc hS hA hB hps ih =>
    intro hwt hok hwf
    obtain ⟨q, qs, rfl⟩ : ∃ q qs, ps = q :: qs := by cases ps with | nil => simp at hp | cons q qs => exact ⟨q, qs, rfl⟩
    rw [Tree.wt] at hwt
    rw [Tree.ok] at hok
    simp only [List.length_cons] at hl hA hB
    exact free_go (S := S) (n := qs.length) rfl rfl hA hB hps hwf (fun i p hp hw => ih i p hp (by have := wt_part (q :: qs) i p hp; omega) (oks_part _ hok i p hp) hw)
end Go.Proofs.YthpcmglnooemaaaGreatDoor

namespace Go.Proofs.YthpcmglnooemaaaGreatDoor
open Go.RowKit

theorem dedB_nil {F : List ByteArray} : dedB [] F = [] ↔ F = [] := by
  constructor
  · intro h
    cases F with
    | nil => rfl
    | cons x F =>
      have key : ∀ (F L : List ByteArray), L ≠ [] → dedB L F ≠ [] := by
        intro F
        induction F with
        | nil => intro L hL; simpa [dedB] using hL
        | cons y F ih =>
          intro L hL
          rw [dedB]
          split
          · exact ih L hL
          · exact ih _ (by simp)
      rw [dedB, if_neg (by simp [hasB])] at h
      exact absurd h (key F _ (by simp))
  · intro h; subst h; rfl
set_option maxRecDepth 100000 in
set_option maxHeartbeats 2000000 in
theorem l2Closed_any {w0 : World} {S : Nat → Prop} {t : Tree} {h : Hd} (ht : TIn w0 S t h) (hwt : t.wt ≤ 12000) (hok : t.ok) (hwf : t.srt ≠ none) (w : World) (hk : Kept w0 w) (hw : w0.heap.size ≤ w.heap.size) :
    Calls Tryz.prog 61 #[.agg #[.string h.a, .slice h.p h.l h.c]] w fun e w' => e = .returned (.bool (decide ((t.free []).length = 0))) ∧ Below w.heap.size w w' := by
  obtain ⟨W2, hW2⟩ : ∃ W2, W2 = ((w.alloc (.cells #[.string h.a, .slice h.p h.l h.c] 49)).alloc (.cells #[] 9)).alloc (.cells #[] 9) := ⟨_, rfl⟩
  have hbw : Below w.heap.size w W2 := by rw [hW2]; exact (((Below.refl _ _).alloc (Nat.le_refl _) _).alloc (by simp) _).alloc (by simp; omega) _
  have hkW : Kept w0 W2 := hk.below hbw hw
  have hsW : W2.heap.size = w.heap.size + 3 := by rw [hW2]; simp
  have ho := own_empty ((w.alloc (.cells #[.string h.a, .slice h.p h.l h.c] 49)).alloc (.cells #[] 9)) w.heap.size (by simp; omega)
  rw [← hW2] at ho
  have hosz : ((w.alloc (.cells #[.string h.a, .slice h.p h.l h.c] 49)).alloc (.cells #[] 9)).heap.size = w.heap.size + 2 := by simp
  rw [hosz] at ho
  have HC := hid (l2Free_any ht hwt hok hwf [] [] (some ⟨w.heap.size + 1, 0, none⟩) (some ⟨w.heap.size + 2, 0, none⟩) 0 0 0 0 w.heap.size W2 hkW (by omega) hw (by omega) ⟨rfl, fun e => by simp at e, fun i s h => by simp at h⟩
    (fun g o e => by simp at e; obtain ⟨rfl, _⟩ := e; exact ⟨by simp [Value.ownBlock], by omega⟩) (by simpa using ho) (by omega) (by omega))
  have HW := hid hW2
  have HB := hid hbw
  have HD := hid (@dedB_nil (t.free []))
  obtain ⟨R, hR⟩ : ∃ R, dedB [] (t.free []) = R := ⟨_, rfl⟩
  rw [hR] at HC HD
  have hRe : (t.free []).length = 0 ↔ R.length = 0 := by
    rw [List.length_eq_zero_iff, List.length_eq_zero_iff]; exact HD.out.symm
  have HRE := hid (show decide ((t.free []).length = 0) = decide (R.length = 0) by rw [Bool.eq_iff_iff]; simp only [decide_eq_true_eq]; exact hRe)
  clear hW2 hbw hkW hsW ho hosz hR hRe ht hk
  go_enter Tryz.func61, Tryz.ntmps61
  go_wp2_with (go_at_call 56; rw [← HW.out]; refine HC.out.mono ?_; rintro e w1 hp; obtain ⟨q1, c1, rfl, ho1, hg1, _⟩ := hp; have HG := hid hg1; clear ho1 hg1)
  go_ret
  refine ⟨ret_bool ?_, HB.out.grown HG.out HB.out.size (fun k e => by simp [Value.ownBlock] at e; omega)⟩
  rw [HRE.out, Bool.eq_iff_iff]; simp

end Go.Proofs.YthpcmglnooemaaaGreatDoor

namespace Go.Proofs.YthpcmglnooemaaaGreatDoor
open Go.RowKit

set_option maxHeartbeats 1000000 in
theorem specTermSort_any (s : ByteArray) (hs : s.size ≤ 400000000) (w : World) : Calls Tryz.prog 14 #[.string s] w fun e w' => e = .returned (.string (sortOf s)) ∧ Below w.heap.size w w' := by
  have HC := hid (fun W => l2Term_any s hs W)
  cases ht : termTree s with
  | none =>
    have HR := hid (termTree_no ht)
    have HT := hid ht
    clear ht
    go_enter Tryz.func14, Tryz.ntmps14
    go_wp2_with (go_at_call 44; refine (HC.out _).mono ?_; rintro e w1 hp; rw [HT.out] at hp; obtain ⟨pa, pp, pl, pc, rfl, hpl, hb1⟩ := hp.none; clear hp)
    go_ret
    exact ⟨ret_str (by rw [HR.out]; rfl), hb1.alloc hb1.size _⟩
  | some t =>
    obtain ⟨hpt, hso⟩ := termTree_sort ht
    have hwt := parse_wt hpt
    have hok := hid (parse_ok hpt)
    have HR := hid hso
    have HT := hid ht
    clear ht hpt hso
    go_enter Tryz.func14, Tryz.ntmps14
    go_wp2_with (first | (go_at_call 44; refine (HC.out _).mono ?_; rintro e w1 hp; rw [HT.out] at hp; obtain ⟨pa, pp, pl, pc, rfl, hb1, htr⟩ := hp.some; clear hp; have HD := hid (fun W hk hs => l2Sort_any htr hwt hok.out W hk hs); clear htr) | (go_at_call 45; refine (HD.out _ ((Kept.refl _).alloc (Nat.le_refl _) _) (by simp)).mono ?_; rintro e w2 ⟨rfl, hb2⟩))
    go_ret
    have s1 := hb1.size
    exact ⟨ret_str HR.out.symm, hb1.trans (((Below.refl _ _).alloc s1 _).trans (hb2.mono (by simp; omega)))⟩

end Go.Proofs.YthpcmglnooemaaaGreatDoor
