/- The model's helpers on terms: l2Has, l2With, l2Inner, l2Binds, l2Uses. -/
import Derived.Test.YtjennpiogdcngaaDoorTermU
import Derived.Test.YtjennpiogdcngaaDoorSortT
import Derived.Test.YtjennpiogdcngaaDoorConcat
namespace Go.Proofs.YtjennpiogdcngaaDoor
open Go.RowKit

theorem hasB_cons (x : ByteArray) (l : List ByteArray) (s : List UInt8) : hasB (x :: l) s = (x.toList == s || hasB l s) := by
  unfold hasB
  rw [List.map_cons, List.contains_cons]
  congr 1
  rw [Bool.eq_iff_iff, beq_iff_eq, beq_iff_eq]; exact ⟨Eq.symm, Eq.symm⟩
set_option maxRecDepth 100000 in
set_option maxHeartbeats 1000000 in
theorem l2Has_any (s : ByteArray) (l : List ByteArray) (p : Option Addr) (n c : Nat) (w : World) (hv : SV w p n c l) (hn : n ≤ 100000) :
    Calls Tryd.prog 67 #[.slice p n c, .string s] w fun e w' => e = .returned (.bool (hasB l s.toList)) ∧ w = w' := by
  have HV := hid hv
  have HL := hid hv.1
  clear hv
  go_enter Tryd.func67, Tryd.ntmps67
  go_wp2_with fail
  go_loop [5] (fun u => ∃ i : Nat, i ≤ n ∧ u = .int .i64 (i : Int) ∧ Hid (hasB l s.toList = hasB (l.drop i) s.toList)) (fun u => n - (intOf u).toNat)
  case atStart => exact ⟨0, Nat.zero_le _, rfl, by show _ = _; rw [List.drop_zero]⟩
  case round =>
    obtain ⟨i, hi, rfl, hd⟩ := hrel
    by_cases hlt : i < n
    · obtain ⟨x, hx⟩ : ∃ x, l[i]? = some x := ⟨_, List.getElem?_eq_getElem (by rw [HL.out]; exact hlt)⟩
      obtain ⟨g, rfl, hc⟩ := HV.out.2.2 i x hx
      have hs : hasB l s.toList = (x.toList == s.toList || hasB (l.drop (i + 1)) s.toList) := by rw [hd.out, drop_at hx, hasB_cons]
      cases hq : x.toList == s.toList with
      | true =>
        rw [hq, Bool.true_or] at hs
        have HS := hid hs
        clear hs hd hx
        go_wp2_with fail
        go_ret
        exact ⟨ret_bool HS.out.symm, rfl⟩
      | false =>
        rw [hq, Bool.false_or] at hs
        have HS := hid hs
        clear hs hd hx
        go_wp2_with fail
        go_round
        case rel => exact ⟨i + 1, by omega, by go_num, HS⟩
        case measure => simp [intOf]; omega
    · have hs : hasB l s.toList = false := by rw [hd.out, List.drop_of_length_le (by rw [HL.out]; omega)]; rfl
      have HS := hid hs
      clear hs hd
      go_wp2_with fail
      go_ret
      exact ⟨ret_bool HS.out.symm, rfl⟩

/-- What a function leaves that returns a list of texts of its own. -/
def OwnS (l : List ByteArray) (w : World) (e : Ending) (w' : World) : Prop :=
  ∃ q c, e = .returned (.slice q l.length c) ∧ w'.ownsRow w.heap.size 9 1 (.slice q l.length c) l.length (l.map Value.string) ∧ Below w.heap.size w w'
theorem own_empty (w : World) (base : Nat) (hb : base ≤ w.heap.size) : (w.alloc (.cells #[] 9)).ownsRow base 9 1 (.slice (some ⟨w.heap.size, 0, none⟩) 0 0) 0 [] := by
  have := World.ownsRow_made (w := w) (base := base) (e := 9) (size := 1) #[] 0 hb (by simp) (by simp)
  simpa using this

set_option maxRecDepth 100000 in
set_option maxHeartbeats 1000000 in
theorem l2With_any (l1 l2 : List ByteArray) (p1 p2 : Option Addr) (n1 n2 c1 c2 : Nat) (w : World) (h1 : SV w p1 n1 c1 l1) (h2 : SV w p2 n2 c2 l2) (hn1 : n1 ≤ 100000) (hn2 : n2 ≤ 100000) :
    Calls Tryd.prog 68 #[.slice p1 n1 c1, .slice p2 n2 c2] w (OwnS (l1 ++ l2) w) := by
  obtain ⟨i0, hi0, hz0, hz1, hz2⟩ := info_parts Tryd.infoStr
  have H1 := hid (h1.kept ((Kept.refl w).alloc (Nat.le_refl _) (.cells #[] 9)))
  have H2 := hid h2
  have L1 := hid h1.1
  have L2 := hid h2.1
  have HO := hid (own_empty w w.heap.size (Nat.le_refl _))
  clear h1 h2
  go_enter Tryd.func68, Tryd.ntmps68
  go_wp2_with (first | (at_builtin; have _ := HOx; refine wpList_append_sv _ rfl _ _ 24 rfl w.heap.size 9 i0 (.string ByteArray.empty) 16 Tryd.underlying24 hi0 hz0 hz1 hz2 rfl _ _ _ _ rfl HOx.out _ _ _ l2 rfl HS2.out (by unfold maxLen; omega) (by omega) (by have := HG1.out.size; simp at this; omega) ?_; intro q2 k2 w2 ho2 hg2; have HO2 := hid ho2; have HG2 := hid hg2; clear ho2 hg2) | (at_builtin; refine wpList_append_sv _ rfl _ _ 24 rfl w.heap.size 9 i0 (.string ByteArray.empty) 16 Tryd.underlying24 hi0 hz0 hz1 hz2 rfl _ _ _ _ rfl HO.out _ _ _ l1 rfl H1.out (by unfold maxLen; omega) (by omega) (by simp) ?_; intro q1 k1 w1 ho1 hg1; have hb1 := ((Below.refl w.heap.size w).alloc (Nat.le_refl _) (.cells #[] 9)).grown hg1 (by simp) (fun k e => (HO.out.lt k e).1); have HB1 := hid hb1; have HS2 := hid (H2.out.kept (Kept.of_below hb1 (Nat.le_refl _))); simp only [Nat.zero_add, List.nil_append] at ho1; have HOx := hid ho1; have HG1 := hid hg1; clear ho1 hg1 hb1))
  go_ret
  refine ⟨q2, k2, ?_, ?_, ?_⟩
  · rw [List.length_append, L1.out, L2.out]; simp
  · rw [List.length_append, L1.out, L2.out, List.map_append]; simpa using HO2.out
  · exact HB1.out.grown HG2.out HB1.out.size (fun k e => (HOx.out.lt k e).1)

set_option maxRecDepth 100000 in
set_option maxHeartbeats 1000000 in
theorem l2Inner_any (q : Tree) (b n cap i : Nat) (a : ByteArray) (c : Sg) (w : World) (hc0 : w.cell? ⟨b, 0, none⟩ = some (.string q.text)) (hn : 0 < n) (hcs : (shape q.text.toList)[i]? = some c) :
    Calls Tryd.prog 40 #[.agg #[.string a, .slice (some ⟨b, 0, none⟩) n cap], .int .i64 ((i : Int) + 1)] w fun e w' => e = .returned (.bool c.isK) ∧ Below w.heap.size w w' := by
  have HF := hid (fun W => l2Shape_any q.text W)
  have hi4 : i < 4 := by have := (List.getElem?_eq_some_iff.1 hcs).1; have := shape_four q.text.toList; omega
  have hFs := loS_size (shape q.text.toList)
  have HFG := hid (fun hi => loS_get (shape q.text.toList) i c hcs hi)
  have hil := (List.getElem?_eq_some_iff.1 hcs).1
  obtain ⟨F, hF⟩ : ∃ F, loS (shape q.text.toList) = F := ⟨_, rfl⟩
  rw [hF] at HF hFs HFG
  have hif : i < F.size := by omega
  have hfc := HFG.out hif
  have kc : ∀ o, (w.alloc o).cell? ⟨b, 0, none⟩ = some (.string q.text) := fun o => (World.cell?_of_block (w := w) (heap_alloc_old w o (World.block_lt_of_cell? w _ hc0))).trans hc0
  have f3 : F.size ≤ 4 := by have := shape_four q.text.toList; omega
  clear hF hFs HFG hil hcs hc0
  cases c with
  | V =>
    have e1 : F[i] = 118 := hfc
    clear hfc
    go_enter Tryd.func40, Tryd.ntmps40
    go_wp2_with (go_at_call 59; refine (HF.out _).mono ?_; rintro e w2 ⟨rfl, rfl⟩)
    go_ret
    exact ⟨ret_bool rfl, (Below.refl _ _).alloc (Nat.le_refl _) _⟩
  | M =>
    have e1 : F[i] = 109 := hfc
    clear hfc
    go_enter Tryd.func40, Tryd.ntmps40
    go_wp2_with (go_at_call 59; refine (HF.out _).mono ?_; rintro e w2 ⟨rfl, rfl⟩)
    go_ret
    exact ⟨ret_bool rfl, (Below.refl _ _).alloc (Nat.le_refl _) _⟩
  | X =>
    have e1 : F[i] = 120 := hfc
    clear hfc
    go_enter Tryd.func40, Tryd.ntmps40
    go_wp2_with (go_at_call 59; refine (HF.out _).mono ?_; rintro e w2 ⟨rfl, rfl⟩)
    go_ret
    exact ⟨ret_bool rfl, (Below.refl _ _).alloc (Nat.le_refl _) _⟩
  | A =>
    have e1 : F[i] = 97 := hfc
    clear hfc
    go_enter Tryd.func40, Tryd.ntmps40
    go_wp2_with (go_at_call 59; refine (HF.out _).mono ?_; rintro e w2 ⟨rfl, rfl⟩)
    go_ret
    exact ⟨ret_bool rfl, (Below.refl _ _).alloc (Nat.le_refl _) _⟩
  | C =>
    have e1 : F[i] = 99 := hfc
    clear hfc
    go_enter Tryd.func40, Tryd.ntmps40
    go_wp2_with (go_at_call 59; refine (HF.out _).mono ?_; rintro e w2 ⟨rfl, rfl⟩)
    go_ret
    exact ⟨ret_bool rfl, (Below.refl _ _).alloc (Nat.le_refl _) _⟩
end Go.Proofs.YtjennpiogdcngaaDoor
