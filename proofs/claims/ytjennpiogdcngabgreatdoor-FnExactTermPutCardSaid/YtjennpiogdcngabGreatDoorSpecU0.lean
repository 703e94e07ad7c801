/- The model's helpers on terms: l2Has, l2Inner. -/
import Derived.Test.YtjennpiogdcngabGreatDoorTermU
import Derived.Test.YtjennpiogdcngabGreatDoorSortT0
import Derived.Test.YtjennpiogdcngabGreatDoorConcat
namespace Go.Proofs.YtjennpiogdcngabGreatDoor
open Go.RowKit

theorem hasB_cons (x : ByteArray) (l : List ByteArray) (s : List UInt8) : hasB (x :: l) s = (x.toList == s || hasB l s) := by
  unfold hasB
  rw [List.map_cons, List.contains_cons]
  congr 1
  rw [Bool.eq_iff_iff, beq_iff_eq, beq_iff_eq]; exact ⟨Eq.symm, Eq.symm⟩
set_option maxRecDepth 100000 in
set_option maxHeartbeats 1000000 in
theorem l2Has_any (s : ByteArray) (l : List ByteArray) (p : Option Addr) (n c : Nat) (w : World) (hv : SV w p n c l) (hn : n ≤ 100000) :
    Calls Tryz.prog 64 #[.slice p n c, .string s] w fun e w' => e = .returned (.bool (hasB l s.toList)) ∧ w = w' := by
  have HV := hid hv
  have HL := hid hv.1
  clear hv
  go_enter Tryz.func64, Tryz.ntmps64
  go_wp2_with fail
  go_loop [5] (fun u => ∃ i : Nat, i ≤ n ∧ u = .int .i64 (i : Int) ∧ Hid (hasB l s.toList = hasB (l.drop i) s.toList)) (fun u => n - (intOf u).toNat)
  case atStart => exact ⟨0, Nat.zero_le _, rfl, by show _ = _; rw [List.drop_zero]⟩
  case round =>
    obtain ⟨i, hi, rfl, hd⟩ := hrel
    by_cases hlt : i < n
    · obtain ⟨x, hx⟩ : ∃ x, l[i]? = some x := ⟨_, List.getElem?_eq_getElem (by rw [HL.out]; exact hlt)⟩
      obtain ⟨g, rfl, hc⟩ := HV.out.2.2 i x hx
      have hs : hasB l s.toList = (x.toList == s.toList || hasB (l.drop (i + 1)) s.toList) := by rw [hd.out, drop_at hx, hasB_cons]
      cases hq : x.toList == s.toList with
      | true =>
        rw [hq, Bool.true_or] at hs
        have HS := hid hs
        clear hs hd hx
        go_wp2_with fail
        go_ret
        exact ⟨ret_bool HS.out.symm, rfl⟩
      | false =>
        rw [hq, Bool.false_or] at hs
        have HS := hid hs
        clear hs hd hx
        go_wp2_with fail
        go_round
        case rel => exact ⟨i + 1, by omega, by go_num, HS⟩
        case measure => simp [intOf]; omega
    · have hs : hasB l s.toList = false := by rw [hd.out, List.drop_of_length_le (by rw [HL.out]; omega)]; rfl
      have HS := hid hs
      clear hs hd
      go_wp2_with fail
      go_ret
      exact ⟨ret_bool HS.out.symm, rfl⟩

/-- What a function leaves that returns a list of texts of its own. -/
def OwnS (l : List ByteArray) (w : World) (e : Ending) (w' : World) : Prop :=
  ∃ q c, e = .returned (.slice q l.length c) ∧ w'.ownsRow w.heap.size 9 1 (.slice q l.length c) l.length (l.map Value.string) ∧ Below w.heap.size w w'
theorem own_empty (w : World) (base : Nat) (hb : base ≤ w.heap.size) : (w.alloc (.cells #[] 9)).ownsRow base 9 1 (.slice (some ⟨w.heap.size, 0, none⟩) 0 0) 0 [] := by
  have := World.ownsRow_made (w := w) (base := base) (e := 9) (size := 1) #[] 0 hb (by simp) (by simp)
  simpa using this

set_option maxRecDepth 100000 in
set_option maxHeartbeats 1000000 in
theorem l2Inner_any (q : Tree) (b n cap i : Nat) (a : ByteArray) (c : Sg) (w : World) (hc0 : w.cell? ⟨b, 0, none⟩ = some (.string q.text)) (hn : 0 < n) (hcs : (shape q.text.toList)[i]? = some c) :
    Calls Tryz.prog 61 #[.agg #[.string a, .slice (some ⟨b, 0, none⟩) n cap], .int .i64 ((i : Int) + 1)] w fun e w' => e = .returned (.bool c.isK) ∧ Below w.heap.size w w' := by
  have HF := hid (fun W => l2Shape_any q.text W)
  have hi4 : i < 4 := by have := (List.getElem?_eq_some_iff.1 hcs).1; have := shape_four q.text.toList; omega
  have hFs := loS_size (shape q.text.toList)
  have HFG := hid (fun hi => loS_get (shape q.text.toList) i c hcs hi)
  have hil := (List.getElem?_eq_some_iff.1 hcs).1
  obtain ⟨F, hF⟩ : ∃ F, loS (shape q.text.toList) = F := ⟨_, rfl⟩
  rw [hF] at HF hFs HFG
  have hif : i < F.size := by omega
  have hfc := HFG.out hif
  have kc : ∀ o, (w.alloc o).cell? ⟨b, 0, none⟩ = some (.string q.text) := fun o => (World.cell?_of_block (w := w) (heap_alloc_old w o (World.block_lt_of_cell? w _ hc0))).trans hc0
  have f3 : F.size ≤ 4 := by have := shape_four q.text.toList; omega
  clear hF hFs HFG hil hcs hc0
  cases c with
  | V =>
    have e1 : F[i] = 118 := hfc
    clear hfc
    go_enter Tryz.func61, Tryz.ntmps61
    go_wp2_with (go_at_call 94; refine (HF.out _).mono ?_; rintro e w2 ⟨rfl, rfl⟩)
    go_ret
    exact ⟨ret_bool rfl, (Below.refl _ _).alloc (Nat.le_refl _) _⟩
  | M =>
    have e1 : F[i] = 109 := hfc
    clear hfc
    go_enter Tryz.func61, Tryz.ntmps61
    go_wp2_with (go_at_call 94; refine (HF.out _).mono ?_; rintro e w2 ⟨rfl, rfl⟩)
    go_ret
    exact ⟨ret_bool rfl, (Below.refl _ _).alloc (Nat.le_refl _) _⟩
  | X =>
    have e1 : F[i] = 120 := hfc
    clear hfc
    go_enter Tryz.func61, Tryz.ntmps61
    go_wp2_with (go_at_call 94; refine (HF.out _).mono ?_; rintro e w2 ⟨rfl, rfl⟩)
    go_ret
    exact ⟨ret_bool rfl, (Below.refl _ _).alloc (Nat.le_refl _) _⟩
  | A =>
    have e1 : F[i] = 97 := hfc
    clear hfc
    go_enter Tryz.func61, Tryz.ntmps61
    go_wp2_with (go_at_call 94; refine (HF.out _).mono ?_; rintro e w2 ⟨rfl, rfl⟩)
    go_ret
    exact ⟨ret_bool rfl, (Below.refl _ _).alloc (Nat.le_refl _) _⟩
  | C =>
    have e1 : F[i] = 99 := hfc
    clear hfc
    go_enter Tryz.func61, Tryz.ntmps61
    go_wp2_with (go_at_call 94; refine (HF.out _).mono ?_; rintro e w2 ⟨rfl, rfl⟩)
    go_ret
    exact ⟨ret_bool rfl, (Below.refl _ _).alloc (Nat.le_refl _) _⟩
end Go.Proofs.YtjennpiogdcngabGreatDoor
