/- Merged: SxO. -/
import Derived.Test.YtgogoekfidbpdaaDoorSQSDelX
import Derived.Test.YtgogoekfidbpdaaDoorSQ15
import Derived.Test.YtgogoekfidbpdaaDoorSQ9
import Derived.Test.YtgogoekfidbpdaaDoorSQ12
namespace Go.Proofs.YtgogoekfidbpdaaDoor
open Go.RowKit Go.Shelf

theorem delS_nil (box c : Nat) (w : World) :
    Calls Tryd.prog 32 #[.slice none 0 c, .func (.func 33) #[] #[.pointer (some ⟨box, 0, none⟩)]] w fun e w' => e = .returned (.slice none 0 c) ∧ w = w' := by
  have HI := hid (fun W => (show Calls Tryd.prog 48 #[.slice none 0 c, .func (.func 33) #[] #[.pointer (some ⟨box, 0, none⟩)]] W fun e w' => e = .returned (.int .i64 (-1)) ∧ w' = W from AnyE.slices_IndexFunc_empty (P := Tryd.prog) (ρ := Tryd.lays10_ren) { Tryd.lays10 with } none c _ W))
  go_enter Tryd.func32, Tryd.ntmps32
  go_wp2_with (go_at_call 48; refine (HI.out _).mono ?_; rintro e w' ⟨rfl, rfl⟩)
  go_ret
  exact ⟨rfl, rfl⟩

theorem own_one (w : World) (x : ByteArray) {base n : Nat} (hn : n = w.heap.size) (hb : base ≤ w.heap.size := by simp) : (w.alloc (.cells #[.string x] 9)).ownsRow base 9 1 (.slice (some ⟨n, 0, none⟩) 1 1) 1 [.string x] := by
  subst hn
  exact ⟨rfl, .inr ⟨w.heap.size, 1, #[.string x], rfl, hb, heap_alloc_new w _, Nat.le_refl _, by decide, rfl, rfl⟩⟩
theorem fnm_le (e : Sx) : e.fnm.length ≤ e.tree.wt := by
  induction e with
  | name a => simp [Sx.fnm, Sx.tree, Tree.wt]
  | bit a => simp [Sx.fnm]
  | lam x s e ih => have := List.length_filter_le (fun y : ByteArray => !(y.toList == x.toList)) e.fnm; simp only [Sx.fnm, Sx.tree, Tree.wt, Tree.wts]; omega
  | app d e ihd ihe => simp only [Sx.fnm, Sx.tree, Tree.wt, Tree.wts, List.length_append]; omega
  | iff d e g ihd ihe ihg => simp only [Sx.fnm, Sx.tree, Tree.wt, Tree.wts, List.length_append]; omega
  | pair d e ihd ihe => simp only [Sx.fnm, Sx.tree, Tree.wt, Tree.wts, List.length_append]; omega
  | fst e ih => simp only [Sx.fnm, Sx.tree, Tree.wt, Tree.wts]; omega
  | snd e ih => simp only [Sx.fnm, Sx.tree, Tree.wt, Tree.wts]; omega
  | get => simp [Sx.fnm]
  | put e ih => simp only [Sx.fnm, Sx.tree, Tree.wt, Tree.wts]; omega
  | fail s => simp [Sx.fnm]
theorem kid_wt {e k : Sx} {i : Nat} (h : e.kids[i]? = some k) : k.tree.wt < e.tree.wt := by
  have hm := List.mem_of_getElem? h
  cases e <;> simp [Sx.kids] at hm <;> simp only [Sx.tree, Tree.wt, Tree.wts]
  all_goals first | (subst hm; omega) | (rcases hm with rfl | rfl <;> omega) | (rcases hm with rfl | rfl | rfl <;> omega)
def kidF (l : List Sx) : List ByteArray := l.flatMap Sx.fnm
theorem kidF_le (e : Sx) : (kidF e.kids).length ≤ e.tree.wt := by
  cases e with
  | name a => simp [kidF, Sx.kids]
  | bit a => simp [kidF, Sx.kids]
  | lam x s e => have := fnm_le e; simp [kidF, Sx.kids, Sx.tree, Tree.wt, Tree.wts]; omega
  | app d e => have := fnm_le d; have := fnm_le e; simp [kidF, Sx.kids, Sx.tree, Tree.wt, Tree.wts]; omega
  | iff d e g => have := fnm_le d; have := fnm_le e; have := fnm_le g; simp [kidF, Sx.kids, Sx.tree, Tree.wt, Tree.wts]; omega
  | pair d e => have := fnm_le d; have := fnm_le e; simp [kidF, Sx.kids, Sx.tree, Tree.wt, Tree.wts]; omega
  | fst e => have := fnm_le e; simp [kidF, Sx.kids, Sx.tree, Tree.wt, Tree.wts]; omega
  | snd e => have := fnm_le e; simp [kidF, Sx.kids, Sx.tree, Tree.wt, Tree.wts]; omega
  | get => simp [kidF, Sx.kids]
  | put e => have := fnm_le e; simp [kidF, Sx.kids, Sx.tree, Tree.wt, Tree.wts]; omega
  | fail s => simp [kidF, Sx.kids]
theorem fnm_name {e : Sx} (h : (e.head.toList == [110, 97, 109, 101]) = true) : e.fnm = [e.atom] := by
  cases e <;> simp_all [Sx.fnm, Sx.atom, Sx.head, hName_l, hBit_l, hLam_l, hApp_l, hIf_l, hPair_l, hFst_l, hSnd_l, hGet_l, hPut_l, hFail_l]
theorem fnm_lam {e : Sx} (h : (e.head.toList == [108, 97, 109]) = true) : e.fnm = (kidF e.kids).filter fun y => !(y.toList == e.nm.toList) := by
  cases e <;> simp_all [Sx.fnm, kidF, Sx.kids, Sx.nm, Sx.head, hName_l, hBit_l, hLam_l, hApp_l, hIf_l, hPair_l, hFst_l, hSnd_l, hGet_l, hPut_l, hFail_l]
theorem fnm_kids {e : Sx} (h1 : (e.head.toList == [110, 97, 109, 101]) = false) (h2 : (e.head.toList == [108, 97, 109]) = false) : e.fnm = kidF e.kids := by
  cases e <;> simp_all [Sx.fnm, kidF, Sx.kids, Sx.head, hName_l, hBit_l, hLam_l, hApp_l, hIf_l, hPair_l, hFst_l, hSnd_l, hGet_l, hPut_l, hFail_l]

set_option maxRecDepth 100000 in
set_option maxHeartbeats 4000000 in
theorem freeNames_any {w0 : World} {S : Nat → Prop} {e : Sx} {b : Nat} (h : XIn w0 S e b) : e.tree.wt ≤ 12000 → ∀ w, Kept w0 w → w0.heap.size ≤ w.heap.size → Calls Tryd.prog 14 #[.pointer (some ⟨b, 0, none⟩)] w (OwnS e.fnm w) := by
  induction h with
  | mk e b tp kp kl kc A hS hb hty hkl hkc hkv hks ih =>
    intro hwt w hk hw
    obtain ⟨tq, rfl⟩ := hty.one
    have hblt := lt_of_block hb
    have hb' := (hk b hblt).trans hb
    have hkl3 : kl ≤ 3 := by have := kids_3 e; omega
    have KC := hid (fun W (hbl : Below (w.alloc (.cells #[.pointer (some ⟨b, 0, none⟩)] 37)).heap.size (w.alloc (.cells #[.pointer (some ⟨b, 0, none⟩)] 37)) W) => (show W.cell? ⟨w.heap.size, 0, none⟩ = some (.pointer (some ⟨b, 0, none⟩)) ∧ (W.cell? ⟨b, 0, none⟩ = some (.string e.head) ∧ W.cell? ⟨b, 1, none⟩ = some (.string e.atom) ∧ W.cell? ⟨b, 2, none⟩ = some (.string e.nm) ∧ W.cell? ⟨b, 4, none⟩ = some (.slice kp kl kc)) ∧ Kept w0 W from by
      have c := cells_of_5 (block_below (pair_alloc5 hb' (.cells #[.pointer (some ⟨b, 0, none⟩)] 37)) hbl (by have := lt_of_block hb'; simp; omega))
      exact ⟨cell_of_one (block_below (heap_new w (.cells #[.pointer (some ⟨b, 0, none⟩)] 37) _ rfl) hbl (by simp)), ⟨c.1, c.2.1, c.2.2.1, c.2.2.2.2.1⟩, (hk.alloc hw _).below hbl (by simp; omega)⟩))
    have HN := hid (fun h => fnm_name (e := e) h)
    have HL := hid (fun h => fnm_lam (e := e) h)
    have HF := hid (fun h1 h2 => fnm_kids (e := e) h1 h2)
    have hkf := kidF_le e
    have HIH := hid (fun i k hik => ih i k hik (by have := kid_wt hik; omega))
    have HRV := hid (fun i v (hv : (ptrs A kl)[i]? = some v) => (show ∃ g, kp = some ⟨g, 0, none⟩ ∧ w0.cell? ⟨g, i, none⟩ = some v from let ⟨g, hp, _, hc⟩ := hkv i v hv; ⟨g, hp, hc⟩))
    have HKL := hid hkl
    obtain ⟨⟨k0⟩, ⟨k1, k2, k3, k4⟩, -⟩ : (_ ∧ True) ∧ _ ∧ _ := by
      have := KC.out _ (Below.refl _ _)
      exact ⟨⟨this.1, trivial⟩, this.2.1, this.2.2⟩
    obtain ⟨R, hR⟩ : ∃ R, e.fnm = R := ⟨_, rfl⟩
    rw [hR] at HN HL HF ⊢
    obtain ⟨hd, hhd⟩ : ∃ hd, e.head = hd := ⟨_, rfl⟩
    obtain ⟨at_, hat⟩ : ∃ x, e.atom = x := ⟨_, rfl⟩
    obtain ⟨nm, hnm⟩ : ∃ x, e.nm = x := ⟨_, rfl⟩
    obtain ⟨ks, hkse⟩ : ∃ x, e.kids = x := ⟨_, rfl⟩
    rw [hhd] at HN HL HF KC k1
    rw [hat] at HN KC k2
    rw [hnm] at HL KC k3
    rw [hkse] at HL HF HIH HKL hkf
    have HBLT := hid hblt
    have hblw : b < w.heap.size := lt_of_block hb'
    clear hb hb' hty hkl hkv hks ih hk hR hhd hat hnm hkse hblt
    obtain ⟨i0, hi0, hz0, hz1, hz2⟩ := info_parts Tryd.infoStr
    cases e1 : hd.toList == [110, 97, 109, 101] with
    | true =>
      have HR := hid (HN.out e1)
      clear HN HL HF
      go_enter Tryd.func14, Tryd.ntmps14
      go_wp2_with fail
      go_ret
      rw [HR.out]
      exact ⟨_, _, rfl, own_one (w.alloc (.cells #[.pointer (some ⟨b, 0, none⟩)] 37)) at_ (by simp), ((Below.refl _ _).alloc (Nat.le_refl _) _).alloc (by simp) _⟩
    | false =>
      have HK1 := hid (HL.out)
      have HK2 := hid (HF.out e1)
      clear HN HL HF
      go_enter Tryd.func14, Tryd.ntmps14
      go_wp2_with fail
      go_loopw [3, 21] (fun v u wr => ∃ (i m c : Nat) (q : Option Addr) (L : List ByteArray), i ≤ kl ∧ u = .int .i64 (i : Int) ∧ v = .slice q m c ∧ wr.ownsRow (w.heap.size + 1) 9 1 (.slice q m c) m (L.map Value.string) ∧ Below (w.heap.size + 1) (w.alloc (.cells #[.pointer (some ⟨b, 0, none⟩)] 37)) wr ∧ m + (kidF (ks.drop i)).length ≤ 12000 ∧ Hid (L ++ kidF (ks.drop i) = kidF ks)) (fun _ u _ => kl - (intOf u).toNat)
      case atStart => exact ⟨0, 0, 0, none, [], Nat.zero_le _, rfl, rfl, World.ownsRow_nil _ _ _ _, Below.refl _ _, by rw [List.drop_zero]; omega, by show _ = _; rw [List.drop_zero]; rfl⟩
      case round =>
        obtain ⟨i, m, c, q, L, hi, rfl, rfl, hown, hbel, hm, hL⟩ := hrel
        have hz := hbel.size
        simp at hz
        obtain ⟨c0, ⟨c1, c2, c3, c4⟩, kw⟩ := KC.out wr (by simpa using hbel)
        have hwr : w0.heap.size ≤ wr.heap.size := by omega
        have HOWN := hid hown
        have HBE := hid hbel
        by_cases hlt : i < kl
        · obtain ⟨k, hik⟩ : ∃ k, ks[i]? = some k := ⟨_, List.getElem?_eq_getElem (by rw [HKL.out]; exact hlt)⟩
          obtain ⟨g, rfl, hc⟩ := HRV.out i _ (ptrs_get A hlt)
          have hc' := kw.cell hc
          have HC := hid (HIH.out i k hik wr kw hwr)
          have hst : kidF (ks.drop i) = k.fnm ++ kidF (ks.drop (i + 1)) := by rw [drop_at hik]; simp [kidF]
          obtain ⟨K, hK⟩ : ∃ K, k.fnm = K := ⟨_, rfl⟩
          rw [hK] at HC hst
          have hm2 : m + K.length + (kidF (ks.drop (i + 1))).length ≤ 12000 := by rw [hst, List.length_append] at hm; omega
          have HL2 := hid (show (L ++ K) ++ kidF (ks.drop (i + 1)) = kidF ks by rw [List.append_assoc, ← hst]; exact hL.out)
          clear hst hL hik hK hc kw hm hown hbel
          go_wp2_with (first | (at_builtin; refine wpList_append_sv _ rfl _ _ 24 rfl (w.heap.size + 1) 9 i0 (.string ByteArray.empty) 16 Tryd.underlying24 hi0 hz0 hz1 hz2 rfl q m c (L.map Value.string) rfl HO1.out _ _ _ K rfl HSV.out (by unfold maxLen; omega) (by omega) (by omega) ?_; intro q2 kc2 w2 hown2 hg2; have HO := hid hown2; have HG := hid hg2; clear hown2 hg2) | (go_at_call 14; refine HC.out.mono ?_; rintro r w1 hp; obtain ⟨q1, cc1, rfl, ho1, hb1⟩ := hp; have HSV := hid (sv_own ho1); have HO1 := hid (ownsRow_under HOWN.out hb1); have HB1 := hid hb1; have s1 := hb1.size; clear ho1 hb1))
          go_roundw
          case rel => exact ⟨i + 1, m + K.length, kc2, q2, L ++ K, by omega, by go_num, rfl, by rw [List.map_append]; exact HO.out, ((HBE.out.trans (HB1.out.mono (by omega))).grown HG.out (by omega) (fun k e => (HOWN.out.lt k e).1)), hm2, HL2⟩
          case measure => simp [intOf]; omega
        · have hin : i = kl := by omega
          have hLk : L = kidF ks := by
            have := hL.out
            rw [List.drop_of_length_le (by rw [HKL.out]; omega)] at this
            simpa [kidF] using this
          have hll : L.length = m := by have := hown.1; simpa using this
          have HLK := hid hLk
          have HLL := hid hll
          have HBW := hid (((Below.refl w.heap.size w).alloc (Nat.le_refl _) _).trans (hbel.mono (by omega)))
          clear hL hLk hll kw hm hown hbel
          cases e2 : hd.toList == [108, 97, 109] with
          | false =>
            have HR := hid (HK2.out e2)
            go_wp2_with fail
            go_ret
            rw [HR.out, ← HLK.out]
            exact ⟨q, c, by rw [HLL.out]; rfl, own_base (by rw [HLL.out]; exact HOWN.out) (by omega), HBW.out⟩
          | true =>
            have HR := hid (HK1.out e2)
            have hz7 := (HOWN.out.2)
            rcases hz7 with ⟨hv, hm0⟩ | ⟨g, cap, cur, hv, hbg, hg, hnc, hcm, hcs, htk⟩
            · obtain ⟨rfl, rfl, rfl⟩ : q = none ∧ m = 0 ∧ c = 0 := by simp at hv; exact hv
              have HD := hid (fun W => delS_nil w.heap.size 0 W)
              clear hv
              go_wp2_with (go_at_call 32; refine (HD.out _).mono ?_; rintro r w1 ⟨rfl, rfl⟩)
              go_ret
              have hl0 : L = [] := List.eq_nil_of_length_eq_zero HLL.out
              rw [HR.out, ← HLK.out, hl0]
              exact ⟨none, 0, rfl, World.ownsRow_nil _ _ _ _, HBW.out⟩
            · obtain ⟨rfl, rfl⟩ : q = some ⟨g, 0, none⟩ ∧ c = cap := by simp at hv; exact hv
              have hm9 : m ≤ 100000 := by have := HLL.out; have h2 : L.length = (kidF ks).length := by rw [HLK.out]
                                          omega
              have HD := hid (delS_any L nm g m c (w.heap.size + 1) w.heap.size b wr HOWN.out hm9 c0 c3 (by omega) (by omega))
              obtain ⟨F, hF⟩ : ∃ F, (L.filter fun y => !(y.toList == nm.toList)) = F := ⟨_, rfl⟩
              have HRF := hid (show R = F by rw [HR.out, ← HLK.out]; exact hF)
              rw [hF] at HD
              clear hv hg hcs htk hF
              go_wp2_with (go_at_call 32; refine HD.out.mono ?_; rintro r w1 ⟨rfl, ho1, hg1⟩; have HO := hid ho1; have HG := hid hg1; clear ho1 hg1)
              go_ret
              rw [HRF.out]
              exact ⟨_, c, rfl, own_base HO.out (by omega), HBW.out.grown HG.out (by omega) (fun k e => by have := Option.some.inj e; omega)⟩
end Go.Proofs.YtgogoekfidbpdaaDoor
