/- TermPut, merged: PutI. -/
import Derived.Test.YtjennpiogdcngabGreatDoorPutMA
import Derived.Test.YtjennpiogdcngabGreatDoorBuild
import Derived.Test.YtjennpiogdcngabGreatDoorSizeP
import Derived.Deep.RegionLaw
import Derived.Deep.AppendLies
namespace Go.Proofs.YtjennpiogdcngabGreatDoor
open Go.RowKit

/-- A node that is made after another one: its block, its parts so far. 's0': the blocks below are old. -/
structure MadeAt (s0 : Nat) (w : World) (b : Nat) (hd a : ByteArray) (d : Int) (bs : Value) (tv : Value) (done : List Tm) (kp : Option Addr) (kl kc : Nat) (A : Nat → Nat) : Prop where
  heap : w.heap[b]? = some (.cells #[.string hd, .string a, .int .i64 d, bs, tv, .slice kp kl kc] 92 (0, 0))
  kids : w.ownsRow (b + 1) 45 1 (.slice kp kl kc) kl (ptrs A kl)
  hkl : done.length = kl
  nodes : ∀ i k, done[i]? = some k → NIn w (fun x => (x < s0 ∨ b + 1 ≤ x) ∧ (Value.slice kp kl kc).ownBlock ≠ some x) k (A i)
theorem MadeAt.under {s0 : Nat} {w w' : World} {b : Nat} {hd a : ByteArray} {d : Int} {bs tv : Value} {done : List Tm} {kp : Option Addr} {kl kc : Nat} {A : Nat → Nat} (h : MadeAt s0 w b hd a d bs tv done kp kl kc A) (hb : Below w.heap.size w w') : MadeAt s0 w' b hd a d bs tv done kp kl kc A :=
  ⟨block_below h.heap hb (lt_of_block h.heap), ownsRow_under h.kids hb, h.hkl, fun i k hk => (h.nodes i k hk).keep (fun x _ hl => hb.block x hl) (fun _ hx _ => hx)⟩
theorem MadeAt.kid {s0 : Nat} {w w2 : World} {b c : Nat} {hd a : ByteArray} {d : Int} {bs tv : Value} {done : List Tm} {m : Tm} {kp kp' : Option Addr} {kl kc kc' : Nat} {A : Nat → Nat} (hs0 : s0 ≤ b) (h : MadeAt s0 w b hd a d bs tv done kp kl kc A)
    (hn : NIn w (fun x => (x < s0 ∨ b + 1 ≤ x) ∧ (Value.slice kp kl kc).ownBlock ≠ some x) m c)
    (hown : w2.ownsRow (b + 1) 45 1 (.slice kp' (kl + 1) kc') (kl + 1) (ptrs A kl ++ [.pointer (some ⟨c, 0, none⟩)])) (hg : w.grownBy w2 (Value.slice kp kl kc).ownBlock)
    (hw : (Value.slice kp' (kl + 1) kc').ownBlock = (Value.slice kp kl kc).ownBlock ∨ (Value.slice kp' (kl + 1) kc').ownBlock = some w.heap.size) :
    MadeAt s0 (w2.setCell ⟨b, 5, none⟩ (.slice kp' (kl + 1) kc')) b hd a d bs tv (done ++ [m]) kp' (kl + 1) kc' (fun i => if i = kl then c else A i) := by
  have hko : (Value.slice kp kl kc).ownBlock ≠ some b := fun e => by have := (h.kids.lt b e).1; omega
  have hb2 := block_grown h.heap hg hko
  have hset : ∀ k, k ≠ b → (w2.setCell ⟨b, 5, none⟩ (.slice kp' (kl + 1) kc')).heap[k]? = w2.heap[k]? := fun k hk => Below.heap_setCell _ _ _ _ (by show k ≠ b; omega)
  have hkeep : ∀ {k : Tm} {x : Nat}, NIn w (fun x => (x < s0 ∨ b + 1 ≤ x) ∧ (Value.slice kp kl kc).ownBlock ≠ some x) k x → NIn (w2.setCell ⟨b, 5, none⟩ (.slice kp' (kl + 1) kc')) (fun x => (x < s0 ∨ b + 1 ≤ x) ∧ (Value.slice kp' (kl + 1) kc').ownBlock ≠ some x) k x := by
    intro k x hk
    refine hk.keep (fun y hy hl => ?_) (fun y hy hl => ⟨hy.1, ?_⟩)
    · rw [hset y (by have := hy.1; omega)]; exact hg.block y hl (fun e => hy.2 e.symm)
    · rcases hw with e | e
      · rw [e]; exact hy.2
      · rw [e]; intro e2; have := Option.some.inj e2; omega
  refine ⟨(six_setCell hb2).2.2, ?_, by simp [h.hkl], ?_⟩
  · rw [ptrs_snoc]; exact ownsRow_setCell_below hown (by show b < b + 1; omega) _
  · intro i k hik
    by_cases hi : i < done.length
    · rw [List.getElem?_append_left hi] at hik
      have : (if i = kl then c else A i) = A i := if_neg (by have := h.hkl; omega)
      rw [this]; exact hkeep (h.nodes i k hik)
    · have hi2 : i = done.length := by
        have := (List.getElem?_eq_some_iff.1 hik).1
        simp at this; omega
      subst hi2
      rw [List.getElem?_append_right (Nat.le_refl _)] at hik
      simp at hik; subst hik
      have : (if done.length = kl then c else A done.length) = c := if_pos h.hkl
      rw [this]; exact hkeep hn
/-- What put leaves. -/
def PutPost (s0 : Nat) (m : Tm) (w : World) (e : Ending) (w' : World) : Prop := ∃ b : Nat, e = .returned (.pointer (some ⟨b, 0, none⟩)) ∧ NIn w' (fun k => k < s0 ∨ w.heap.size ≤ k) m b ∧ Below w.heap.size w w'

set_option maxRecDepth 100000 in
set_option maxHeartbeats 4000000 in
/-- THE PROGRAM's PUT. -/
theorem put_any {w0 : World} {S : Nat → Prop} {m : Tm} {b : Nat} (hn : NIn w0 S m b) (x : ByteArray) {v : Tm} {vb : Nat} {S2 : Nat → Prop} (hv : NIn w0 S2 v vb) : m.size ≤ 400000000 → ∀ w, Kept w0 w → w0.heap.size ≤ w.heap.size →
    Calls Tryz.prog 57 #[.pointer (some ⟨b, 0, none⟩), .string x, .pointer (some ⟨vb, 0, none⟩)] w (PutPost w0.heap.size (Tm.put x.toList v m) w) := by
  induction hn with
  | mk hd a d bs ty ks b bp bl bc kp kl kc A hS hb hbl hkl hbn hbv hkv hks ih =>
    intro hsz w hk hw
    rw [Tm.size] at hsz
    have hlt0 := lt_of_block hb
    have c := cells_of_six ((hk b hlt0).trans hb)
    have c0 := c.1
    have c1 := c.2.1
    have c2 := c.2.2.1
    have c3 := c.2.2.2.1
    have c4 := c.2.2.2.2.1
    have c5 := c.2.2.2.2.2.1
    have hsk : Tm.sizes ks ≤ 400000000 := by omega
    have hkl3 : kl ≤ 400000000 := by have := tmsizes_length ks; omega
    have HKL := hid hkl
    have HKV := hid hkv
    have HIH := hid ih
    have HK := hid hk
    have HV := hid hv
    have HBV := hid hbv
    have HBL := hid hbl
    have HBN := hid hbn
    clear ih hk hb hbv hS c hkl hkv hks hbl hsz hv hbn
    by_cases hf : hd.toList = [110, 97, 109, 101] ∧ d = -1 ∧ a.toList = x.toList
    · have HF := hid (show Tm.put x.toList v (Tm.mk hd a d bs ty ks) = v by rw [Tm.put, if_pos hf])
      obtain ⟨h1, h2, h3⟩ := hf
      have e1 : (hd.toList == [110, 97, 109, 101]) = true := by simpa using h1
      have e2 : (d == -1) = true := by simpa using h2
      have e3 : (a.toList == x.toList) = true := by simpa using h3
      clear h1 h2 h3
      go_enter Tryz.func57, Tryz.ntmps57
      go_wp2_with fail
      go_ret
      rw [HF.out]
      exact ⟨vb, rfl, HV.out.keep (fun k _ hl => HK.out k hl) (fun k _ hl => Or.inl hl), Below.refl _ _⟩
    · have HF := hid (show Tm.put x.toList v (Tm.mk hd a d bs ty ks) = Tm.mk hd a d bs ty (Tm.puts x.toList v ks) by rw [Tm.put, if_neg hf])
      have hfc : (hd.toList == [110, 97, 109, 101]) = false ∨ ((hd.toList == [110, 97, 109, 101]) = true ∧ (d == -1) = false) ∨ ((hd.toList == [110, 97, 109, 101]) = true ∧ (d == -1) = true ∧ (a.toList == x.toList) = false) := by
        cases e1 : hd.toList == [110, 97, 109, 101] with
        | false => exact Or.inl rfl
        | true =>
          refine Or.inr ?_
          cases e2 : d == -1 with
          | false => exact Or.inl ⟨rfl, rfl⟩
          | true =>
            refine Or.inr ⟨rfl, rfl, ?_⟩
            cases e3 : a.toList == x.toList with
            | false => rfl
            | true => exact absurd ⟨by simpa using e1, by simpa using e2, by simpa using e3⟩ hf
      clear hf
      obtain ⟨i0, hi0, hz0, hz1, hz2⟩ := info_parts Tryz.infoPtr
      obtain ⟨TV, hTV⟩ : ∃ TV, tyV ty = TV := ⟨_, rfl⟩
      have HTV := hid hTV
      have hti := tyV_iface ty
      rw [hTV] at c4 hti
      clear hTV
      have hW := heap_new w (.cells #[.string hd, .string a, .int .i64 d, .slice bp bl bc, TV, .slice kp kl kc] 92) w.heap.size rfl
      have c5' := (World.cell?_of_block (w := w) (a := ⟨b, 5, none⟩) (heap_alloc_old w (.cells #[.string hd, .string a, .int .i64 d, .slice bp bl bc, TV, .slice none 0 0] 92) (World.block_lt_of_cell? w _ c5))).trans c5
      rcases hti with ⟨u1, v1, rfl⟩ | rfl
      all_goals
        rcases hfc with e1 | ⟨e1, e2⟩ | ⟨e1, e2, e3⟩
        all_goals
          go_enter Tryz.func57, Tryz.ntmps57
          go_wp2_with fail
          go_loopw [40] (fun u wr => ∃ (i kc2 : Nat) (kp2 : Option Addr) (A2 : Nat → Nat) (TV2 : Value), Hid (tyV ty = TV2) ∧ i ≤ kl ∧ u = .int .i64 (i : Int) ∧ MadeAt w0.heap.size wr w.heap.size hd a d (.slice bp bl bc) TV2 (Tm.puts x.toList v (ks.take i)) kp2 i kc2 A2 ∧ Below w.heap.size w wr) (fun u _ => kl - (intOf u).toNat)
          case atStart =>
            exact ⟨0, 0, none, fun _ => 0, _, HTV, Nat.zero_le _, rfl, ⟨heap_new _ _ _ rfl, World.ownsRow_nil _ _ _ _, rfl, fun i k h => by simp [Tm.puts] at h⟩, (Below.refl _ _).alloc (Nat.le_refl _) _⟩
          case round =>
            obtain ⟨i, kc2, kp2, A2, TV2, hTV2, hi, rfl, hM, hbel⟩ := hrel
            have hz := hbel.size
            have HM := hid hM
            have HBEL := hid hbel
            have kw : Kept w0 wr := HK.out.below hbel hw
            have m5 := (cells_of_six hM.heap)
            clear hM hbel
            by_cases hlt : i < kl
            · obtain ⟨t, hti⟩ : ∃ t, ks[i]? = some t := ⟨_, List.getElem?_eq_getElem (by rw [HKL.out]; exact hlt)⟩
              obtain ⟨g, rfl, _, hc⟩ := HKV.out i _ (ptrs_get A hlt)
              have hc' := kw.cell hc
              have htk := tmsizes_take ks (i + 1)
              have hsn := tmsizes_snoc ks i t hti
              have HC := hid (fun W (hk : Kept w0 W) (hs : w0.heap.size ≤ W.heap.size) => HIH.out i t hti (by omega) W hk hs)
              have HPS := hid (show Tm.puts x.toList v (ks.take (i + 1)) = Tm.puts x.toList v (ks.take i) ++ [Tm.put x.toList v t] by rw [List.take_add_one, hti, Option.toList_some, tmputs_append]; rfl)
              clear hc hti htk hsn c0 c1 c2 c3 c4 c5 c5'
              have hwr : w.heap.size < wr.heap.size := lt_of_block HM.out.heap
              have hB1 : Below wr.heap.size wr wr.drew := (Below.refl _ _).drew
              have HB1 := hid hB1
              have HC1 := hid (HC.out wr.drew (kw.below hB1 (by omega)) (by simpa using Nat.le_trans hw hz))
              have hi4 : i ≤ 400000000 := by omega
              clear hB1 HC kw
              go_wp2_with fail
              go_region_law (first
                | (go_simp; (refine HC1.out.mono ?_; rintro e w3 ⟨a3, rfl, hn3, hb3⟩; have HB3 := hid (show Below wr.heap.size wr w3 from HB1.out.trans hb3); have HN3 := hid hn3; have hz3 := HB3.out.size; have m3 := cells_of_six (HM.out.under HB3.out).heap; have hlt3 : w.heap.size < w3.heap.size := (by omega); have m3b := cells_of_six (HM.out.under (HB3.out.alloc (by omega) (.cells #[.pointer (some ⟨a3, 0, none⟩)] 45))).heap; clear hb3; clear hn3))
                | (have _ := hid HB3; refine step_append_lies _ rfl (.tmp 45) (.tmp 50) 90 rfl (w.heap.size + 1) 45 i0 (.pointer none) 1 8 Tryz.underlying90 hi0 hz0 hz1 hz2 rfl (by decide) (.slice kp2 i kc2) i _ (by simp [Act.eval]) ((ownsRow_under HM.out.kids HB3.out).alloc _) ⟨w3.heap.size, 0, none⟩ 1 1 [.pointer (some ⟨a3, 0, none⟩)] (by simp [Act.eval]) rfl (cells_new1 _ _ _ _ rfl) (by intro u hu; simp at hu; subst hu; rfl) (by decide) (by unfold maxLen; omega) (by omega) (by simp; omega) _ rfl ?_; intro g2 kc4 w4 hown4 hg4 hw4 hlt4; have hko : (Value.slice kp2 i kc2).ownBlock ≠ some w.heap.size := (fun e => by have := (HM.out.kids.lt _ e).1; omega); have m4 := cells_of_six (block_grown ((HM.out.under (HB3.out.alloc (by omega) (.cells #[.pointer (some ⟨a3, 0, none⟩)] 45))).heap) hg4 hko); have HG := hid hg4; have HO4 := hid hown4; have HW := hid hw4; clear hg4 hown4 hw4 hko))
              all_goals
                go_wp2_with fail
                go_roundw
                case rel =>
                  have hBa := HB3.out.alloc (by omega) (.cells #[.pointer (some ⟨a3, 0, none⟩)] 45)
                  have hfin := (HM.out.under hBa).kid hw (m := Tm.put x.toList v t) (c := a3) (HN3.out.keep (fun k _ hl => heap_alloc_old w3 _ hl) (fun y hy _ => by
                    have hy' : y < w0.heap.size ∨ wr.heap.size ≤ y := by simpa using hy
                    exact ⟨by omega, fun e => by have := HM.out.kids.lt y e; omega⟩)) HO4.out HG.out (by rcases HW.out with e | e; exact Or.inl e.symm; exact Or.inr (by rw [e]; rfl))
                  refine ⟨i + 1, kc4, some ⟨g2, 0, none⟩, _, TV2, hTV2, by omega, by go_num, by rw [HPS.out]; exact hfin, ?_⟩
                  exact (((HBEL.out.trans (HB3.out.mono hz)).alloc (by omega) _).grown HG.out (by simp; omega) (fun k e => by have := (HM.out.kids.lt k e).1; omega)).setCell (Nat.le_refl _) _
                case measure => simp [intOf]; omega
            · have hin : i = kl := by omega
              subst hin
              have HE := hid (show ks.take i = ks from List.take_of_length_le (by rw [HKL.out]; omega))
              go_wp2_with fail
              go_ret
              rw [HF.out]
              refine ⟨w.heap.size, rfl, ?_, HBEL.out⟩
              have hM := HM.out
              rw [HE.out, ← hTV2.out] at hM
              have hkn := hM.hkl
              refine .mk hd a d bs ty _ w.heap.size bp bl bc kp2 i kc2 A2 (Or.inr (Nat.le_refl _)) hM.heap HBL.out hkn ⟨HBN.out.1, ?_⟩ (HBV.out.keep (fun k _ hl => kw k hl) (fun k _ hl => Or.inl hl)) ?_ (fun j k hj => (hM.nodes j k hj).keep (fun _ _ _ => rfl) (fun y hy _ => by have := hy.1; omega))
              · rcases hM.kids.2 with ⟨h1, h2⟩ | ⟨g, cap, cur, h1, _, _, h2, _⟩
                · omega
                · simp at h1; omega
              · intro j u hu
                rcases hM.kids.2 with ⟨h1, h2⟩ | ⟨g, cap, cur, h1, h3, _, h2, _⟩
                · subst h2; simp [ptrs] at hu
                · obtain ⟨rfl, rfl⟩ : kp2 = some ⟨g, 0, none⟩ ∧ kc2 = cap := by simp at h1; exact h1
                  have hc := hM.kids.cells (g := g) rfl j u hu
                  have hadd : (⟨g, 0, none⟩ : Addr).add j = ⟨g, j, none⟩ := by unfold Addr.add; split <;> simp_all
                  rw [hadd] at hc
                  exact ⟨g, rfl, Or.inr (by omega), hc⟩
end Go.Proofs.YtjennpiogdcngabGreatDoor
