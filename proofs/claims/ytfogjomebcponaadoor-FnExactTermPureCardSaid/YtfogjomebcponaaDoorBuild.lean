/- A term under construction: its state in memory; addBound, addType. -/
import Derived.Test.YtfogjomebcponaaDoorContS
import Derived.Test.YtfogjomebcponaaDoorNode
import Derived.Deep.RegionWith
namespace Go.Proofs.YtfogjomebcponaaDoor
open Go.RowKit

theorem Tryd.infoPtr : (Tryd.prog.info? 35).map (fun i => (i.zero, i.size, i.bytes)) = some (some (.pointer none), 1, 8) := by kernel_rfl
/-- A node's block, whose rows are the call's own. -/
structure BldAt (w : World) (b : Nat) (hd : ByteArray) (st : St) (bp : Option Addr) (bl bc : Nat) (kp : Option Addr) (kl kc : Nat) (A : Nat → Nat) : Prop where
  heap : w.heap[b]? = some (.cells #[.string hd, .string ByteArray.empty, .int .i64 0, .slice bp bl bc, tyV st.ty, .slice kp kl kc] 54 (0, 0))
  binds : w.ownsRow (b + 1) 9 1 (.slice bp bl bc) bl (st.binds.map Value.string)
  kids : w.ownsRow (b + 1) 35 1 (.slice kp kl kc) kl (ptrs A kl)
  hkl : st.kids.length = kl
  apart : ∀ g, (Value.slice bp bl bc).ownBlock = some g → (Value.slice kp kl kc).ownBlock ≠ some g
  nodes : ∀ i k, st.kids[i]? = some k → NIn w (fun x => b + 1 ≤ x ∧ (Value.slice bp bl bc).ownBlock ≠ some x ∧ (Value.slice kp kl kc).ownBlock ≠ some x) k (A i)
def Bld (w : World) (b : Nat) (hd : ByteArray) (st : St) : Prop := ∃ bp bl bc kp kl kc A, BldAt w b hd st bp bl bc kp kl kc A

theorem BldAt.bl {w : World} {b : Nat} {hd : ByteArray} {st : St} {bp : Option Addr} {bl bc : Nat} {kp : Option Addr} {kl kc : Nat} {A : Nat → Nat} (h : BldAt w b hd st bp bl bc kp kl kc A) : st.binds.length = bl := by
  have := h.binds.1; simpa using this
theorem BldAt.sv {w : World} {b : Nat} {hd : ByteArray} {st : St} {bp : Option Addr} {bl bc : Nat} {kp : Option Addr} {kl kc : Nat} {A : Nat → Nat} (h : BldAt w b hd st bp bl bc kp kl kc A) : SV w bp bl bc st.binds := sv_own h.binds
theorem BldAt.under {w w' : World} {b : Nat} {hd : ByteArray} {st : St} {bp : Option Addr} {bl bc : Nat} {kp : Option Addr} {kl kc : Nat} {A : Nat → Nat} (h : BldAt w b hd st bp bl bc kp kl kc A) (hb : Below w.heap.size w w') : BldAt w' b hd st bp bl bc kp kl kc A :=
  ⟨block_below h.heap hb (lt_of_block h.heap), ownsRow_under h.binds hb, ownsRow_under h.kids hb, h.hkl, h.apart, fun i k hk => (h.nodes i k hk).keep (fun x _ hl => hb.block x hl) (fun _ hx _ => hx)⟩

theorem BldAt.start (w : World) (hd : ByteArray) (b : Nat) (hb : b = w.heap.size) : BldAt (w.alloc (.cells #[.string hd, .string ByteArray.empty, .int .i64 0, .slice none 0 0, .nilIface, .slice none 0 0] 54)) b hd St.none none 0 0 none 0 0 (fun _ => 0) :=
  ⟨heap_new _ _ _ hb, World.ownsRow_nil _ _ _ _, World.ownsRow_nil _ _ _ _, rfl, fun g h => by simp [Value.ownBlock] at h, fun i k h => by simp [St.none] at h⟩

/-- One more name is bound. -/
theorem BldAt.bound {w w2 : World} {b : Nat} {hd s : ByteArray} {st : St} {bp bp' : Option Addr} {bl bc bc' : Nat} {kp : Option Addr} {kl kc : Nat} {A : Nat → Nat} (h : BldAt w b hd st bp bl bc kp kl kc A)
    (hown : w2.ownsRow (b + 1) 9 1 (.slice bp' (bl + 1) bc') (bl + 1) (st.binds.map Value.string ++ [.string s])) (hg : w.grownBy w2 (Value.slice bp bl bc).ownBlock)
    (hw : (Value.slice bp' (bl + 1) bc').ownBlock = (Value.slice bp bl bc).ownBlock ∨ (Value.slice bp' (bl + 1) bc').ownBlock = some w.heap.size) :
    BldAt (w2.setCell ⟨b, 3, none⟩ (.slice bp' (bl + 1) bc')) b hd { st with binds := st.binds ++ [s] } bp' (bl + 1) bc' kp kl kc A := by
  have hbo : (Value.slice bp bl bc).ownBlock ≠ some b := fun e => by have := (h.binds.lt b e).1; omega
  have hb2 := block_grown h.heap hg hbo
  have hset : ∀ k, b + 1 ≤ k → (w2.setCell ⟨b, 3, none⟩ (.slice bp' (bl + 1) bc')).heap[k]? = w2.heap[k]? := fun k hk => Below.heap_setCell _ _ _ _ (by show k ≠ b; omega)
  refine ⟨(six_setCell hb2).1, ?_, ?_, h.hkl, ?_, ?_⟩
  · simp only [List.map_append, List.map_cons, List.map_nil]
    exact ownsRow_setCell_below hown (by show b < b + 1; omega) _
  · refine ownsRow_setCell_below (h.kids.kept hg ?_) (by show b < b + 1; omega) _
    cases hk : (Value.slice kp kl kc).ownBlock with
    | none => exact Or.inl rfl
    | some g => exact Or.inr (fun e => h.apart g e.symm hk)
  · intro g hg2 hk
    rcases hw with e | e
    · exact h.apart g (e ▸ hg2) hk
    · rw [e] at hg2
      have := (h.kids.lt g hk).2
      have := Option.some.inj hg2; omega
  · intro i k hik
    refine (h.nodes i k hik).keep (fun x hx hl => ?_) (fun x hx hl => ⟨hx.1, ?_, hx.2.2⟩)
    · rw [hset x hx.1]; exact hg.block x hl (fun e => hx.2.1 e.symm)
    · rcases hw with e | e
      · rw [e]; exact hx.2.1
      · rw [e]; intro e2; have := Option.some.inj e2; omega

/-- One more part. -/
theorem BldAt.kid {w w2 : World} {b a : Nat} {hd : ByteArray} {m : Tm} {st : St} {bp : Option Addr} {bl bc : Nat} {kp kp' : Option Addr} {kl kc kc' : Nat} {A : Nat → Nat} (h : BldAt w b hd st bp bl bc kp kl kc A)
    (hn : NIn w (fun x => b + 1 ≤ x ∧ (Value.slice bp bl bc).ownBlock ≠ some x ∧ (Value.slice kp kl kc).ownBlock ≠ some x) m a)
    (hown : w2.ownsRow (b + 1) 35 1 (.slice kp' (kl + 1) kc') (kl + 1) (ptrs A kl ++ [.pointer (some ⟨a, 0, none⟩)])) (hg : w.grownBy w2 (Value.slice kp kl kc).ownBlock)
    (hw : (Value.slice kp' (kl + 1) kc').ownBlock = (Value.slice kp kl kc).ownBlock ∨ (Value.slice kp' (kl + 1) kc').ownBlock = some w.heap.size) :
    BldAt (w2.setCell ⟨b, 5, none⟩ (.slice kp' (kl + 1) kc')) b hd { st with kids := st.kids ++ [m] } bp bl bc kp' (kl + 1) kc' (fun i => if i = kl then a else A i) := by
  have hko : (Value.slice kp kl kc).ownBlock ≠ some b := fun e => by have := (h.kids.lt b e).1; omega
  have hb2 := block_grown h.heap hg hko
  have hset : ∀ k, b + 1 ≤ k → (w2.setCell ⟨b, 5, none⟩ (.slice kp' (kl + 1) kc')).heap[k]? = w2.heap[k]? := fun k hk => Below.heap_setCell _ _ _ _ (by show k ≠ b; omega)
  have hkeep : ∀ {k : Tm} {x : Nat}, NIn w (fun x => b + 1 ≤ x ∧ (Value.slice bp bl bc).ownBlock ≠ some x ∧ (Value.slice kp kl kc).ownBlock ≠ some x) k x → NIn (w2.setCell ⟨b, 5, none⟩ (.slice kp' (kl + 1) kc')) (fun x => b + 1 ≤ x ∧ (Value.slice bp bl bc).ownBlock ≠ some x ∧ (Value.slice kp' (kl + 1) kc').ownBlock ≠ some x) k x := by
    intro k x hk
    refine hk.keep (fun y hy hl => ?_) (fun y hy hl => ⟨hy.1, hy.2.1, ?_⟩)
    · rw [hset y hy.1]; exact hg.block y hl (fun e => hy.2.2 e.symm)
    · rcases hw with e | e
      · rw [e]; exact hy.2.2
      · rw [e]; intro e2; have := Option.some.inj e2; omega
  refine ⟨(six_setCell hb2).2.2, ?_, ?_, by simp [h.hkl], ?_, ?_⟩
  · refine ownsRow_setCell_below (h.binds.kept hg ?_) (by show b < b + 1; omega) _
    cases hk : (Value.slice bp bl bc).ownBlock with
    | none => exact Or.inl rfl
    | some g => exact Or.inr (fun e => h.apart g hk e.symm)
  · rw [ptrs_snoc]; exact ownsRow_setCell_below hown (by show b < b + 1; omega) _
  · intro g hg2 hk
    rcases hw with e | e
    · exact h.apart g hg2 (e ▸ hk)
    · rw [e] at hk
      have := (h.binds.lt g hg2).2
      have := Option.some.inj hk; omega
  · intro i k hik
    by_cases hi : i < st.kids.length
    · rw [List.getElem?_append_left hi] at hik
      have : (if i = kl then a else A i) = A i := if_neg (by have := h.hkl; omega)
      rw [this]; exact hkeep (h.nodes i k hik)
    · have hi2 : i = st.kids.length := by
        have := (List.getElem?_eq_some_iff.1 hik).1
        simp at this; omega
      subst hi2
      simp at hik; subst hik
      have : (if st.kids.length = kl then a else A st.kids.length) = a := if_pos h.hkl
      rw [this]; exact hkeep hn

/-- The type. -/
theorem BldAt.typ {w : World} {b : Nat} {hd : ByteArray} {st : St} {bp : Option Addr} {bl bc : Nat} {kp : Option Addr} {kl kc : Nat} {A : Nat → Nat} (h : BldAt w b hd st bp bl bc kp kl kc A) (t : Ty) :
    BldAt (w.setCell ⟨b, 4, none⟩ t.val) b hd { st with ty := some t } bp bl bc kp kl kc A := by
  have hset : ∀ k, b + 1 ≤ k → (w.setCell ⟨b, 4, none⟩ t.val).heap[k]? = w.heap[k]? := fun k hk => Below.heap_setCell _ _ _ _ (by show k ≠ b; omega)
  refine ⟨(six_setCell h.heap).2.1, ownsRow_setCell_below h.binds (by show b < b + 1; omega) _, ownsRow_setCell_below h.kids (by show b < b + 1; omega) _, h.hkl, h.apart, fun i k hik => ?_⟩
  exact (h.nodes i k hik).keep (fun x hx _ => hset x hx.1) (fun _ hx _ => hx)

/-- A finished term. -/
theorem BldAt.done {w : World} {b : Nat} {hd : ByteArray} {st : St} {bp : Option Addr} {bl bc : Nat} {kp : Option Addr} {kl kc : Nat} {A : Nat → Nat} (h : BldAt w b hd st bp bl bc kp kl kc A) :
    NIn w (fun k => b ≤ k) (.mk hd ByteArray.empty 0 st.binds st.ty st.kids) b := by
  refine .mk _ _ _ _ _ _ b bp bl bc kp kl kc A (Nat.le_refl _) h.heap h.bl h.hkl ⟨own_cap h.binds, own_cap h.kids⟩ ?_ ?_ (fun i k hik => (h.nodes i k hik).keep (fun _ _ _ => rfl) (fun x hx _ => by omega))
  · intro i v hv
    obtain ⟨s, hs, rfl⟩ : ∃ s, st.binds[i]? = some s ∧ Value.string s = v := by simpa using hv
    obtain ⟨g, hp, hc⟩ := h.sv.2.2 i s hs
    exact ⟨g, hp, by have := (own_lt h.binds g 0 hp).1; omega, hc⟩
  · intro i v hv
    rcases h.kids.2 with ⟨hv2, hn⟩ | ⟨g, cap, cur, hv2, hbg, _⟩
    · have := (List.getElem?_eq_some_iff.1 hv).1
      rw [ptrs_length] at this; omega
    · obtain ⟨rfl, _⟩ : kp = some ⟨g, 0, none⟩ ∧ kc = cap := by simp at hv2; exact hv2
      have hc := h.kids.cells (g := g) rfl i v hv
      have hadd : (⟨g, 0, none⟩ : Addr).add i = ⟨g, i, none⟩ := by unfold Addr.add; split <;> simp_all
      rw [hadd] at hc
      exact ⟨g, rfl, by omega, hc⟩

/-- What adding a part leaves. -/
def PartPost (o : Option St) (b : Nat) (hd : ByteArray) (w : World) (e : Ending) (w' : World) : Prop :=
  Below b w w' ∧ match o with
    | some st => e = .returned (.bool true) ∧ Bld w' b hd st
    | none => e = .returned (.bool false)
theorem PartPost.none {b : Nat} {hd : ByteArray} {w w' : World} {e : Ending} (h : PartPost Option.none b hd w e w') : e = .returned (.bool false) ∧ Below b w w' := ⟨h.2, h.1⟩
theorem PartPost.some {b : Nat} {hd : ByteArray} {w w' : World} {e : Ending} {st : St} (h : PartPost (Option.some st) b hd w e w') : e = .returned (.bool true) ∧ Below b w w' ∧ Bld w' b hd st := ⟨h.2.1, h.1, h.2.2⟩

set_option maxRecDepth 100000 in
set_option maxHeartbeats 1000000 in
theorem addBound_any (s : ByteArray) (hs : s.size ≤ 400000000) (b : Nat) (hd : ByteArray) (st : St) (w : World) (hst : Bld w b hd st) (hbn : st.binds.length ≤ 1000) :
    Calls Tryd.prog 62 #[.pointer (some ⟨b, 0, none⟩), .string s] w (PartPost (addX s st) b hd w) := by
  obtain ⟨bp, bl, bc, kp, kl, kc, A, h⟩ := hst
  have HN := hid (fun W => isName_any s hs W)
  have hbl := h.bl
  have hlt := lt_of_block h.heap
  rw [hbl] at hbn
  have H := hid h
  have HBL := hid hbl
  clear h hbl
  cases hnm : nameB s.toList with
  | false =>
    have HX := hid (show addX s st = none by rw [addX, if_neg (by rw [hnm]; simp)])
    rw [hnm] at HN
    clear hnm
    go_enter Tryd.func62, Tryd.ntmps62
    go_wp2_with (go_at_call 60; refine (HN.out _).mono ?_; rintro e w1 ⟨rfl, hb1⟩)
    go_ret
    rw [HX.out]
    exact ⟨hb1.mono (by omega), rfl⟩
  | true =>
    rw [hnm] at HN
    have HNM := hid hnm
    clear hnm
    cases hbs : hasB st.binds s.toList with
    | true =>
      have HX := hid (show addX s st = none by rw [addX, if_neg]; exact fun hh => hh.2 hbs)
      have HB := hid hbs
      clear hbs
      go_enter Tryd.func62, Tryd.ntmps62
      go_wp2_with (first | (go_at_call 60; refine (HN.out _).mono ?_; rintro e w1 ⟨rfl, hb1⟩; have h1 := H.out.under hb1; have k := cells_of_six h1.heap; have HC := hid (contains_sv _ _ _ _ s w1 h1.sv (by omega)); rw [HB.out] at HC; clear h1) | (go_at_call 71; refine HC.out.mono ?_; rintro e w2 ⟨rfl, rfl⟩))
      go_ret
      rw [HX.out]
      exact ⟨hb1.mono (by omega), rfl⟩
    | false =>
      have HX := hid (show addX s st = some { st with binds := st.binds ++ [s] } by rw [addX, if_pos]; exact ⟨HNM.out, by intro hh; have := hbs; unfold hasB at this; rw [this] at hh; cases hh⟩)
      have HB := hid hbs
      obtain ⟨i0, hi0, hz0, hz1, hz2⟩ := info_parts Tryd.infoStr
      clear hbs
      go_enter Tryd.func62, Tryd.ntmps62
      go_wp2_with (first
        | (at_builtin; refine wpList_append_at _ rfl (.tmp 20) (.tmp 22) 52 rfl (b + 1) 9 i0 (.string ByteArray.empty) 1 16 Tryd.underlying52 hi0 hz0 hz1 hz2 rfl (by decide) (.slice bp bl bc) bl _ rfl ((ownsRow_under H.out.binds hb1).alloc _) ⟨w1.heap.size, 0, none⟩ 1 1 [.string s] rfl rfl (cells_new1 _ _ _ _ rfl) (by intro u hu; simp at hu; subst hu; rfl) (by decide) (by unfold maxLen; omega) (by omega) (by have := hb1.size; simp; omega) ?_; intro v' w2 hown2 hg2 hw2 hv2; obtain ⟨g2, kc2, rfl⟩ := hv2; have hbo : (Value.slice bp bl bc).ownBlock ≠ some b := (fun e => by have := (H.out.binds.lt b e).1; omega); have m := cells_of_six (block_grown ((H.out.under (hb1.alloc hb1.size (.cells #[.string s] 9))).heap) hg2 hbo); have HG := hid hg2; have HO := hid hown2; have HW := hid hw2; clear hg2 hown2 hw2 hbo)
        | (go_at_call 60; refine (HN.out _).mono ?_; rintro e w1 ⟨rfl, hb1⟩; have h1 := H.out.under hb1; have k := cells_of_six h1.heap; have HC := hid (contains_sv _ _ _ _ s w1 h1.sv (by omega)); rw [HB.out] at HC; clear h1)
        | (go_at_call 71; refine HC.out.mono ?_; rintro e w2 ⟨rfl, rfl⟩))
      go_ret
      rw [HX.out]
      have hz := hb1.size
      have hfin := (H.out.under (hb1.alloc hz (.cells #[.string s] 9))).bound HO.out HG.out HW.out
      refine ⟨?_, rfl, _, _, _, _, _, _, _, hfin⟩
      exact ((((hb1.mono (show b ≤ w.heap.size by omega)).alloc (by omega) _).grown HG.out (by simp; omega) (fun k e => by have := (H.out.binds.lt k e).1; omega)).setCell (Nat.le_refl _) _)
end Go.Proofs.YtfogjomebcponaaDoor
