/- Merged: BackI. -/
import Derived.Deep.QuietTactic
import Derived.BigQuiet
import Derived.Test.YtknjpdbdchnpeaaFM11
import Derived.Test.YtknjpdbdchnpeaaFMSIntP
namespace Go.Proofs.Ytknjpdbdchnpeaa
open Go.RowKit Go.Shelf
attribute [local go_sem] Oper.semAt_some

/-- What comes in a round: an index and a number. -/
def encB (x : Nat × Int) : Array Value := #[.int .i64 (x.1 : Int), .int .i64 x.2]

theorem drop_int {zs : List Int} {j : Nat} {z : Int} (h : zs[j]? = some z) : zs.drop j = z :: zs.drop (j + 1) := by
  have hj := (List.getElem?_eq_some_iff.1 h).1
  rw [List.drop_eq_getElem_cons hj]
  rw [List.getElem?_eq_getElem hj] at h
  rw [Option.some.inj h]

set_option maxHeartbeats 1000000 in
theorem backward_in (p : Option Addr) (len c : Nat) (n : Nat) (w : World) : CallsIn Fence.wide n Try.prog 80 #[.slice p len c] w fun e w' =>
    e = .returned (.func (.func 91) #[] #[.pointer (some ⟨w.heap.size, 0, none⟩)]) ∧ w' = w.alloc (.cells #[.slice p len c] 44) := by
  refine callsIn_of_wp Try.func80 rfl trivial ?_ rfl
  simp only [Try.ntmps80, List.size_toArray, List.length_cons, List.length_nil, Nat.reduceAdd, Nat.reduceSub, Array.replicate_succ, Array.replicate_zero, List.push_toArray, List.append_toArray, List.nil_append, List.cons_append]
  gi_wp2
  go_ret
  exact ⟨rfl, rfl⟩

set_option maxRecDepth 100000 in
set_option maxHeartbeats 2000000 in
/-- What the closure owes. -/
theorem backward_iter {zs : List Int} {p : Option Addr} {len c g : Nat} {K : Nat → Prop} {w : World} (n : Nat) (hl : zs.length = len) (hlb : len ≤ 400000000) (hv : Vals w p (ints zs)) (h1 : w.heap[g]? = some (.cells #[.slice p len c] 44 (0, 0))) (hK : K g) (hKp : ∀ b o, p = some ⟨b, o, none⟩ → K b) :
    IterP n Try.prog 91 #[.pointer (some ⟨g, 0, none⟩)] encB K (fun xs => xs.map Prod.snd = zs.reverse) (fun _ => True) w := by
  intro l J Jx W hW hJ _ hY h0
  have hg := lt_of_block h1
  have hdd : ∀ k : Nat, (Fence.wide.depth.isSome = true → 1 ≤ k) := fun k h => by cases h
  have c1 := cell_of_one (block_below h1 hW hg)
  have KG := hid (show ∀ wr, ApartP K W.heap.size W wr → wr.cell? ⟨g, 0, none⟩ = some (.slice p len c) from fun wr ha => (World.cell?_of_block (w := W) (a := ⟨g, 0, none⟩) (ha.block g (by have := hW.size; omega) (Or.inl hK))).trans c1)
  have KV := hid (show ∀ wr, ApartP K W.heap.size W wr → Vals wr p (ints zs) from fun wr ha i v hi => by
    obtain ⟨b, o, hp, hc⟩ := hv i v hi
    have hb := World.block_lt_of_cell? w _ hc
    have hc2 := (hW.cell (p := ⟨b, o + i, none⟩) hb).trans hc
    exact ⟨b, o, hp, (World.cell?_of_block (w := W) (a := ⟨b, o + i, none⟩) (ha.block b (World.block_lt_of_cell? W _ hc2) (Or.inl (hKp b o hp)))).trans hc2⟩)
  have HY := hid hY
  have HL := hid hl
  have H0 := hid h0
  clear hv h1 hK hKp hW hJ hY h0 hl c1
  show CallsIn Fence.wide n Try.prog _ #[.func (.yield l) #[] #[], .pointer (some ⟨g, 0, none⟩)] W _
  have c1 := KG.out W (ApartP.refl _ _ _)
  refine callsIn_of_wp Try.func91 rfl trivial ?_ rfl
  simp only [Try.ntmps91, List.size_toArray, List.length_cons, List.length_nil, Nat.reduceAdd, Nat.reduceSub, Array.replicate_succ, Array.replicate_zero, List.push_toArray, List.append_toArray, List.nil_append, List.cons_append]
  gi_wp2
  gi_loopw [3] (fun u wr => ∃ (i : Nat) (q : List (Nat × Int)), i ≤ len ∧ u = .int .i64 ((i : Int) - 1) ∧ ApartP K W.heap.size W wr ∧ Hid (q.map Prod.snd = (zs.drop i).reverse) ∧ Hid (J q wr)) (fun u _ => (intOf u + 1).toNat)
  case atStart => exact ⟨len, [], Nat.le_refl _, rfl, ApartP.refl _ _ _, hid (by rw [List.drop_of_length_le (by rw [HL.out]; exact Nat.le_refl _)]; rfl), hid H0.out⟩
  case round =>
    obtain ⟨i, q, hi, rfl, hap, hq, hj⟩ := hrel
    have HAP := hid hap
    have d1 := KG.out wr hap
    clear hap
    by_cases hlt : 1 ≤ i
    · obtain ⟨j, rfl⟩ : ∃ j, i = j + 1 := ⟨i - 1, by omega⟩
      have hcast : ((j + 1 : Nat) : Int) - 1 = (j : Int) := by omega
      rw [hcast]
      obtain ⟨z, hz⟩ : ∃ z, zs[j]? = some z := ⟨_, List.getElem?_eq_getElem (by rw [HL.out]; omega)⟩
      obtain ⟨b, o, rfl, hcz⟩ := KV.out wr HAP.out j _ (ints_get hz)
      have HQ := hid (show (q ++ [(j, z)]).map Prod.snd = (zs.drop j).reverse by
        rw [List.map_append, hq.out, drop_int hz, List.reverse_cons]; rfl)
      have HYW := hid (HY.out q (j, z) wr hj.out)
      clear hz
      obtain ⟨fn, tmps, assign, body, hy, hR⟩ := HYW.out
      simp only [encB] at hy
      gi_wp2_with ((try refine ⟨trivial, ?_⟩); (try refine ⟨hdd _, ?_⟩); refine hR.mono ?_; clear hR; rintro e w9 (⟨rfl, hj9, ha9⟩ | ⟨rfl, hx9⟩))
      · go_roundw
        case rel => exact ⟨j, q ++ [(j, z)], by omega, by go_num, HAP.out.trans ha9, HQ, hid hj9⟩
        case measure => simp [intOf]
      · (try simp only [Exit.inBlock, Exit.then]); refine bodyPost_ret (results_none rfl _ _ _) rfl ?_
        exact ⟨⟨_, rfl⟩, .inr ⟨_, trivial, hx9⟩⟩
    · have hi0 : i = 0 := by omega
      subst hi0
      have HQ := hid (show q.map Prod.snd = zs.reverse by have := hq.out; rwa [List.drop_zero] at this)
      have HJ := hid hj.out
      gi_wp2
      go_end0
      exact ⟨⟨_, rfl⟩, .inl ⟨q, HQ.out, HJ.out⟩⟩
end Go.Proofs.Ytknjpdbdchnpeaa
