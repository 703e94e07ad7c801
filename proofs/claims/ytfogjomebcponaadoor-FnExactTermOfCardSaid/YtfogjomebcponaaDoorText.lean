/- The model's text of a tree: l1Text. -/
import Derived.Test.YtfogjomebcponaaDoorSpecA
import Derived.Test.YtfogjomebcponaaDoorTextP
namespace Go.Proofs.YtfogjomebcponaaDoor
open Go.RowKit

set_option maxRecDepth 100000 in
set_option maxHeartbeats 2000000 in
theorem l1Text_big {w0 : World} {S : Nat → Prop} {t : Tree} {h : Hd} (ht : TIn w0 S t h) : t.write.length ≤ 400000000 → t.wt ≤ 400000000 → ∀ w, Kept w0 w → w0.heap.size ≤ w.heap.size →
    Calls Tryd.prog 21 #[.agg #[.string h.a, .slice h.p h.l h.c]] w fun e w' => e = .returned (.string t.txt) ∧ Below w.heap.size w w' := by
  induction ht with
  | atom s hne hm =>
    intro _ _ w _ _
    have he := isEmpty_not s hne
    have hx : s = (Tree.atom s).txt := by rw [Tree.txt, Tree.write]
    have HX := hid hx
    clear hx
    go_enter Tryd.func21, Tryd.ntmps21
    go_wp2
    go_ret
    exact ⟨ret_str HX.out, (Below.refl _ _).alloc (by simp) _⟩
  | node ps b cap A hp hl hc hS hA hB hps ih =>
    intro hwl hwt w hk hw
    have hlen := wts_length ps
    rw [Tree.wt] at hwt
    rw [write_node] at hwl
    obtain ⟨n, hn⟩ : ∃ n, n = ps.length := ⟨_, rfl⟩
    rw [← hn] at hp hl hA hB hlen ⊢
    have hjl : (Tree.join ps).length ≤ 400000000 := by simp at hwl; omega
    have HN := hid hn
    have HIH := hid ih
    have HA := hid hA
    have HB := hid hB
    have HK := hid hk
    have HWT := hid hwt
    have HJL := hid hjl
    clear hn ih hA hB hk hps hwt hjl hwl
    have hn2 : n ≤ 400000000 := by have := HWT.out; omega
    go_enter Tryd.func21, Tryd.ntmps21
    go_wp2_with fail
    go_loopw [3, 4] (fun v u wr => ∃ (j : Nat) (o : ByteArray), j ≤ n ∧ u = .int .i64 (j : Int) ∧ v = .string o ∧ o.size ≤ 400000001 ∧ Hid (o.toList = 40 :: Tree.join (ps.take j)) ∧ Below (w.heap.size + 1) (w.alloc (.cells #[.string ByteArray.empty, .slice (some ⟨b, 0, none⟩) n cap] 27)) wr) (fun _ u _ => n - (intOf u).toNat)
    case atStart => exact ⟨0, _, Nat.zero_le _, rfl, rfl, by decide, hid (by rw [Go.ByteArray.toList_eq]; rfl), Below.refl _ _⟩
    case round =>
      obtain ⟨j, o, hj, rfl, rfl, ho, hol, hbel⟩ := hrel
      have hz := hbel.size
      simp at hz
      have kb : Kept w wr := ((Kept.refl w).alloc (Nat.le_refl _) _).below hbel (by omega)
      have e1 := cells_of_pair (block_below (heap_new w (.cells #[.string ByteArray.empty, .slice (some ⟨b, 0, none⟩) n cap] 27) w.heap.size rfl) hbel (by omega))
      have HBW : Hid (Below w.heap.size w wr) := ((Below.refl _ _).alloc (by simp) _).trans (hbel.mono (by omega))
      by_cases hlt : j < n
      · have kw : Kept w0 wr := HK.out.trans kb hw
        have ca := kw.cell (HA.out j hlt)
        have cb := kw.cell (HB.out j hlt)
        obtain ⟨p, hp⟩ : ∃ p, ps[j]? = some p := ⟨_, List.getElem?_eq_getElem (by rw [← HN.out]; exact hlt)⟩
        have hpl := join_part ps j p hp
        have hps1 : p.txt.size ≤ 400000000 := by rw [txt_size]; have := HJL.out; omega
        have HC := hid (HIH.out j p hp (by have := HJL.out; omega) (by have := wt_part ps j p hp; have := HWT.out; omega) wr kw (by omega))
        have hjt := join_take ps (j + 1)
        by_cases hj0 : j = 0
        · subst hj0
          have hnx : (o ++ p.txt).toList = 40 :: Tree.join (ps.take (0 + 1)) := by rw [append_toList, hol.out, txt_toList, join_first ps p hp]; simp [Tree.join]
          have hns : (o ++ p.txt).size ≤ 400000001 := by
            rw [size_toList, hnx]
            have := HJL.out
            simp only [List.length_cons]; omega
          have HNX := hid hnx
          have HNS := hid hns
          clear hnx hns hp kw kb hpl hjt
          go_wp2_with (go_at_call 21; refine HC.out.mono ?_; rintro e w1 ⟨rfl, hb1⟩)
          go_roundw
          case rel => exact ⟨0 + 1, o ++ p.txt, by omega, by go_num, rfl, HNS.out, HNX, hbel.trans (hb1.mono (by omega))⟩
          case measure => simp [intOf]; omega
        · have hnx : ((o ++ ({ data := #[32] } : ByteArray)) ++ p.txt).toList = 40 :: Tree.join (ps.take (j + 1)) := by rw [append_toList, append_toList, hol.out, txt_toList, space_toList, join_snoc ps j p hp (by omega)]; simp
          have hns : ((o ++ ({ data := #[32] } : ByteArray)) ++ p.txt).size ≤ 400000001 := by
            rw [size_toList, hnx]
            have := HJL.out
            simp only [List.length_cons]; omega
          have HNX := hid hnx
          have HNS := hid hns
          have hj1 : 0 < j := by omega
          clear hnx hns hp kw kb hpl hjt hj0
          go_wp2_with (go_at_call 21; refine HC.out.mono ?_; rintro e w1 ⟨rfl, hb1⟩)
          go_roundw
          case rel => exact ⟨j + 1, _, by omega, by go_num, rfl, HNS.out, HNX, hbel.trans (hb1.mono (by omega))⟩
          case measure => simp [intOf]; omega
      · have hjn : j = n := by omega
        have HJN := hid hjn
        clear hjn kb
        go_wp2_with fail
        go_ret
        refine ⟨ret_str ?_, HBW.out⟩
        have := hol.out
        rw [HJN.out, HN.out, List.take_length] at this
        rw [bytes_of_toList (show (o ++ ({ data := #[41] } : ByteArray)).toList = 40 :: (Tree.join ps ++ [41]) by rw [append_toList, this, show ({ data := #[41] } : ByteArray).toList = [41] by rw [Go.ByteArray.toList_eq]]; simp), Tree.txt, write_node]
theorem l1Text_any {w0 : World} {S : Nat → Prop} {t : Tree} {h : Hd} (ht : TIn w0 S t h) (h1 : t.write.length ≤ 12000) (h2 : t.wt ≤ 12000) (w : World) (hk : Kept w0 w) (hw : w0.heap.size ≤ w.heap.size) :
    Calls Tryd.prog 21 #[.agg #[.string h.a, .slice h.p h.l h.c]] w fun e w' => e = .returned (.string t.txt) ∧ Below w.heap.size w w' := l1Text_big ht (by omega) (by omega) w hk hw
end Go.Proofs.YtfogjomebcponaaDoor
