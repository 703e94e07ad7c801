/- The reading of a text by the model and by the program: each reads what 'rd' tells. For texts of at most 12000 bytes. -/
import Derived.Test.YtfogjomebcponaaDoorRows
import Derived.Test.YtfogjomebcponaaDoorKit
import Derived.WalkKit
import Derived.WalkSpells
import Derived.WalkLawsBesides
import Derived.Deep.Light
namespace Go.Proofs.YtfogjomebcponaaDoor
open Go.RowKit

set_option maxHeartbeats 400000 in
theorem l1Byte_any (c : Nat) (w : World) :
    Calls Tryd.prog 46 #[.int .u8 (c : Int)] w fun e w' => e = .returned (.bool (atomB c)) ∧ w = w' := by
  go_enter Tryd.func46, Tryd.ntmps46
  go_wp2
  all_goals
    go_ret
    refine ⟨ret_bool ?_, rfl⟩
    first
    | exact (atomB_t (by omega)).symm
    | (rw [Bool.eq_iff_iff]; simp [atomB]; omega)

/-- What the reading of a part leaves. -/
def ReadPost (s : ByteArray) (k i : Nat) (w : World) (e : Ending) (w' : World) : Prop :=
  Below w.heap.size w w' ∧
  match rd s k i with
  | some (t, n) => ∃ h : Hd, e = .returned (.tuple #[.agg #[.string h.a, .slice h.p h.l h.c], .int .i64 (n : Int)]) ∧ TIn w' (fun b => w.heap.size ≤ b) t h
  | none => ∃ a p l c, e = .returned (.tuple #[.agg #[.string a, .slice p l c], .int .i64 (-1)]) ∧ l ≤ maxLen

theorem readPost_none {s : ByteArray} {k i : Nat} {w w' : World} {a : ByteArray} {p : Option Addr} {l c : Nat} (h : rd s k i = none) (hl : l ≤ maxLen) (hb : Below w.heap.size w w') :
    ReadPost s k i w (.returned (.tuple #[.agg #[.string a, .slice p l c], .int .i64 (-1)])) w' := by
  refine ⟨hb, ?_⟩
  rw [h]; exact ⟨a, p, l, c, rfl, hl⟩
theorem readPost_some {s : ByteArray} {k i n : Nat} {t : Tree} {w w' : World} {a : ByteArray} {p : Option Addr} {l c : Nat} (h : rd s k i = some (t, n)) (ht : TIn w' (fun b => w.heap.size ≤ b) t ⟨a, p, l, c⟩) (hb : Below w.heap.size w w') :
    ReadPost s k i w (.returned (.tuple #[.agg #[.string a, .slice p l c], .int .i64 (n : Int)])) w' := by
  refine ⟨hb, ?_⟩
  rw [h]; exact ⟨⟨a, p, l, c⟩, rfl, ht⟩
theorem readPost_atom {s : ByteArray} {k i n : Nat} {w w' : World} (hk : 0 < k) (hs : s.size ≤ maxLen) (hi : i < s.size) (h40 : byteAt s i ≠ 40) (hn : n = runEnd s i) (hne : n ≠ i) (hb : Below w.heap.size w w') :
    ReadPost s k i w (.returned (.tuple #[.agg #[.string (s.extract i n), .slice none 0 0], .int .i64 (n : Int)])) w' := by
  subst hn
  have := runEnd_ge s i
  have := runEnd_le s i (by omega)
  refine readPost_some (rd_some_atom hk hi h40 hne) (.atom _ ?_ ?_) hb <;> simp [ByteArray.size_extract] <;> omega

theorem Tryd.infoTree : (Tryd.prog.info? 27).map (fun i => (i.zero, i.size, i.bytes)) = some (some (.agg #[.string ByteArray.empty, .slice none 0 0]), 2, 40) := by kernel_rfl

theorem ReadPost.none {s : ByteArray} {k i : Nat} {w w' : World} {e : Ending} (h : ReadPost s k i w e w') (hr : rd s k i = none) :
    ∃ a p l c, e = .returned (.tuple #[.agg #[.string a, .slice p l c], .int .i64 (-1)]) ∧ l ≤ maxLen ∧ Below w.heap.size w w' := by
  obtain ⟨hb, h⟩ := h
  rw [hr] at h
  obtain ⟨a, p, l, c, he, hl⟩ := h
  exact ⟨a, p, l, c, he, hl, hb⟩
theorem ReadPost.some {s : ByteArray} {k i n : Nat} {t : Tree} {w w' : World} {e : Ending} (h : ReadPost s k i w e w') (hr : rd s k i = some (t, n)) :
    ∃ a p l c, e = .returned (.tuple #[.agg #[.string a, .slice p l c], .int .i64 (n : Int)]) ∧ Below w.heap.size w w' ∧ TIn w' (fun b => w.heap.size ≤ b) t ⟨a, p, l, c⟩ := by
  obtain ⟨hb, h⟩ := h
  rw [hr] at h
  obtain ⟨h, he, ht⟩ := h
  exact ⟨h.a, h.p, h.l, h.c, he, hb, ht⟩

/-- What a round that reads a part leaves: out's block and the result's, what has been gathered, old memory. -/
theorem paren_close {w wr w1 w2 : World} {up : Option Addr} {ul uc g kc : Nat} {acc : List Tree} {ab : List Hd} {p : Tree} {pa : ByteArray} {pp : Option Addr} {pl pc : Nat} {o1 o2 : Obj}
    (hbel : Below w.heap.size w wr) (hB0 : wr.heap[w.heap.size]? = some (.cells #[.string ByteArray.empty, .slice none 0 0] 27 (0, 0))) (hB1 : wr.heap[w.heap.size + 1]? = some (.cells #[.string ByteArray.empty, .slice up ul uc] 27 (0, 0)))
    (hl : ab.length = acc.length) (ht : ∀ (i : Nat) (p : Tree) (x : Hd), acc[i]? = some p → ab[i]? = some x → TIn wr (fun b => w.heap.size + 2 ≤ b ∧ (Value.slice up ul uc).ownBlock ≠ some b) p x)
    (hown : wr.ownsRow (w.heap.size + 2) 27 2 (.slice up ul uc) acc.length (two ab))
    (hb1 : Below wr.heap.size wr w1) (hn : TIn w1 (fun b => wr.heap.size ≤ b) p ⟨pa, pp, pl, pc⟩)
    (hg : ((w1.alloc o1).alloc o2).grownBy w2 (Value.slice up ul uc).ownBlock)
    (ho : w2.ownsRow (w.heap.size + 2) 27 2 (.slice (some ⟨g, 0, none⟩) (acc.length + 1) kc) (acc.length + 1) (two ab ++ [.string pa, .slice pp pl pc]))
    (hw : (Value.slice (some ⟨g, 0, none⟩) (acc.length + 1) kc).ownBlock = (Value.slice up ul uc).ownBlock ∨ (Value.slice (some ⟨g, 0, none⟩) (acc.length + 1) kc).ownBlock = some ((w1.alloc o1).alloc o2).heap.size) :
    (w2.setCell ⟨w.heap.size + 1, 1, none⟩ (.slice (some ⟨g, 0, none⟩) (acc.length + 1) kc)).heap[w.heap.size]? = some (.cells #[.string ByteArray.empty, .slice none 0 0] 27 (0, 0)) ∧
    (w2.setCell ⟨w.heap.size + 1, 1, none⟩ (.slice (some ⟨g, 0, none⟩) (acc.length + 1) kc)).heap[w.heap.size + 1]? = some (.cells #[.string ByteArray.empty, .slice (some ⟨g, 0, none⟩) (acc.length + 1) kc] 27 (0, 0)) ∧
    AccIn (w2.setCell ⟨w.heap.size + 1, 1, none⟩ (.slice (some ⟨g, 0, none⟩) (acc.length + 1) kc)) (w.heap.size + 2) 27 (.slice (some ⟨g, 0, none⟩) (acc.length + 1) kc) (acc ++ [p]) ∧
    Below w.heap.size w (w2.setCell ⟨w.heap.size + 1, 1, none⟩ (.slice (some ⟨g, 0, none⟩) (acc.length + 1) kc)) := by
  have hlt := hown.lt
  have l0 := lt_of_block hB0
  have l1 := lt_of_block hB1
  have s1 := hb1.size
  have s0 := hbel.size
  have hba : Below w1.heap.size w1 ((w1.alloc o1).alloc o2) := ((Below.refl _ _).alloc (Nat.le_refl _) _).alloc (by simp) _
  have q0 := block_grown (pair_alloc (pair_alloc (block_below hB0 hb1 l0) o1) o2) hg (fun e => by have := hlt _ e; omega)
  have q1 := block_grown (pair_alloc (pair_alloc (block_below hB1 hb1 l1) o1) o2) hg (fun e => by have := hlt _ e; omega)
  have hacc := AccIn.more (a := ⟨pa, pp, pl, pc⟩) hl ht hown (by omega) hb1 hn hba ho hg hw
  refine ⟨?_, pair_setCell1 q1, hacc.setCell (by show w.heap.size + 1 < _; omega) _, ?_⟩
  · rw [Below.heap_setCell _ _ _ _ (by simp)]; exact q0
  · refine ((hbel.trans (hb1.mono s0)).trans (hba.mono (by omega))).grown hg (by simp; omega) (fun k e => ?_) |>.setCell (by show w.heap.size ≤ w.heap.size + 1; omega) _
    have := hlt k e; omega

set_option maxRecDepth 100000 in
set_option maxHeartbeats 1000000 in
theorem l1Read_paren (s : ByteArray) (hs : s.size ≤ 12000) (k : Nat) (ih : ∀ (i depth : Nat) (w : World), i ≤ s.size → depth + k = 101 →
      Calls Tryd.prog 31 #[.string s, .int .i64 (i : Int), .int .i64 (depth : Int)] w (ReadPost s k i w))
    (i depth : Nat) (w : World) (hi : i < s.size) (hd : depth + (k + 1) = 101) (h40 : s[i].toNat = 40) :
    Calls Tryd.prog 31 #[.string s, .int .i64 (i : Int), .int .i64 (depth : Int)] w (ReadPost s (k + 1) i w) := by
  have hs' : s.size ≤ 9223372036854775807 := by omega
  have hd' : depth ≤ 100 := by omega
  have HD := hid hd
  have hb40 := hid ((byteAt_lt s i hi).trans h40)
  have IH := hid ih
  have e40 : ((s[i].toNat : Int) != 40) = false := by simp; omega
  have d1 : decide (100 < (depth : Int)) = false := by simp; omega
  have d2 : decide (s.size ≤ i) = false := by simp; omega
  have hbd := hid (rd_bound s k)
  clear hd h40 ih
  go_enter Tryd.func31, Tryd.ntmps31
  go_wp2_with fail
  go_loopw [1] (fun v wr => ∃ (j : Nat) (acc : List Tree) (up : Option Addr) (ul uc : Nat), v = .int .i64 (j : Int) ∧ i ≤ j ∧ j < s.size ∧ acc.length ≤ j ∧
      wr.heap[w.heap.size]? = some (.cells #[.string ByteArray.empty, .slice none 0 0] 27 (0, 0)) ∧ wr.heap[w.heap.size + 1]? = some (.cells #[.string ByteArray.empty, .slice up ul uc] 27 (0, 0)) ∧
      AccIn wr (w.heap.size + 2) 27 (.slice up ul uc) acc ∧ Below w.heap.size w wr ∧ Hid (∀ n, s.size < n + j → rdL s (rd s k) n j acc = rd s (k + 1) i)) (fun v _ => s.size - (intOf v).toNat)
  case atStart =>
    refine ⟨i, [], none, 0, 0, rfl, Nat.le_refl _, hi, Nat.zero_le _, ?_, ?_, AccIn.nil _ _ _, ((Below.refl _ _).alloc (by simp) _).alloc (by simp) _, fun n hn => ?_⟩
    · exact pair_alloc (heap_alloc_new w _) _
    · exact heap_new _ _ _ (by simp)
    · rw [rd_paren hi hb40.out]; exact rdL_more s _ hbd.out n _ i _ hn (by omega)
  case round =>
    obtain ⟨j, acc, up, ul, uc, rfl, hj1, hj2, hj3, hB0, hB1, hacc, hbel, hrd⟩ := hrel
    have hc := hid (fun W => IH.out (j + 1) (depth + 1) W (by omega) (by have := HD.out; omega))
    cases hr : rd s k (j + 1) with
    | none =>
      have HR := hid hr
      clear hr
      have hz := hbel.size
      have hnone : rd s (k + 1) i = none := by
        rw [← hrd.out (s.size + 1) (by omega), rdL, HR.out]
      have HN := hid hnone
      have HB0 := hid hB0
      clear hnone hrd
      go_wp2_with (go_at_call 31; refine (hc.out _).mono ?_; rintro e w1 hp; obtain ⟨pa, pp, pl, pc, rfl, hpl, hb1⟩ := hp.none HR.out; clear hp; have k0 := fun o => cells_of_pair (pair_alloc (block_below hB0 hb1 (lt_of_block hB0)) o); have k1 := fun o => cells_of_pair (pair_alloc (block_below hB1 hb1 (lt_of_block hB1)) o))
      refine bodyPost_ret (v := .tuple #[.agg #[.string ByteArray.empty, .slice up ul uc], .int .i64 (-1)]) (by simp [results, Tryd.results31, go_sem, (k0 _).1, (k0 _).2.1]) rfl ?_
      go_light
      exact readPost_none HN.out (by have := hacc.len; unfold maxLen; omega) ((((hbel.trans (hb1.mono hz)).alloc (by have := hb1.size; omega) _).setCell (Nat.le_refl _) _).setCell (Nat.le_refl _) _)
    | some x =>
      obtain ⟨p, n⟩ := x
      have HR := hid hr
      clear hr
      have hn := hbd.out _ _ _ HR.out
      have hz := hbel.size
      have hzz := hid (lt_of_block hB1)
      by_cases hns : n < s.size
      · have HRD := hid (fun m (hm : s.size < m + 1 + j) => (hrd.out (m + 1) hm).symm)
        clear hrd
        obtain ⟨i0, hi0, hz0, hz1, hz2⟩ := info_parts Tryd.infoTree
        obtain ⟨ab, hab, hown, hts⟩ := hacc
        have HTS := hid hts
        clear hts
        have HOWN := hid hown
        have HAB := hid hab
        have HB0 := hid hB0
        have HB1 := hid hB1
        clear hown hab
        have hlt := HOWN.out.lt
        have HLT := hid hlt
        clear hlt
        go_wp2_with (first | (at_builtin; refine wpList_append_at _ rfl (.tmp 69) (.tmp 71) 25 rfl (w.heap.size + 2) 27 i0 (.agg #[.string ByteArray.empty, .slice none 0 0]) 2 40 Tryd.underlying25 hi0 hz0 hz1 hz2 rfl (by decide) (.slice up ul uc) acc.length (two ab) rfl (((ownsRow_under HOWN.out hb1).alloc _).alloc _) ⟨w1.heap.size + 1, 0, none⟩ 1 1 [.string pa, .slice pp pl pc] rfl rfl (cells_new2 _ _ _ _ _ (by simp)) (by intro u hu; simp at hu; rcases hu with rfl | rfl <;> rfl) (by decide) (by unfold maxLen; omega) (by omega) (by have := hb1.size; simp; omega) ?_; intro v' w2 hown2 hg2 hw2 hv2; obtain ⟨g, kc, rfl⟩ := hv2; have m0 := cells_of_pair (block_grown (pair_alloc (pair_alloc (block_below hB0 hb1 (lt_of_block hB0)) _) _) hg2 (fun e => by have := HLT.out _ e; omega)); have m1 := cells_of_pair (block_grown (pair_alloc (pair_alloc (block_below hB1 hb1 (lt_of_block hB1)) _) _) hg2 (fun e => by have := HLT.out _ e; omega)); have HG := hid hg2; have HO := hid hown2; have HW := hid hw2; clear hg2 hown2 hw2) | (go_at_call 31; refine (hc.out _).mono ?_; rintro e w1 hp; obtain ⟨pa, pp, pl, pc, rfl, hb1, ht⟩ := hp.some HR.out; clear hp; have k0 := fun o => cells_of_pair (pair_alloc (block_below hB0 hb1 (lt_of_block hB0)) o); have k1 := fun o => cells_of_pair (pair_alloc (block_below hB1 hb1 (lt_of_block hB1)) o)))
        · have h41 : ((s[n].toNat : Int) == 41) = true := by assumption
          have h41' : byteAt s n = 41 := by rw [byteAt_lt s n hns]; have h := h41; simp at h; omega
          have hrd' : rd s (k + 1) i = some (.node (acc ++ [p]), n + 1) := by
            rw [HRD.out s.size (by omega), rdL, HR.out]; simp [hns, h41']
          have hbl := paren_close hbel HB0.out HB1.out HAB.out HTS.out HOWN.out hb1 ht HG.out HO.out HW.out
          refine bodyPost_ret (v := .tuple #[.agg #[.string ByteArray.empty, .slice (some ⟨g, 0, none⟩) (acc.length + 1) kc], .int .i64 ((n + 1 : Nat) : Int)]) (by simp [results, Tryd.results31, go_sem, m0.1, m0.2.1]) rfl ?_
          go_light
          refine readPost_some hrd' ?_ ((hbl.2.2.2.setCell (Nat.le_refl _) _).setCell (Nat.le_refl _) _)
          exact ((hbl.2.2.1.setCell (by show w.heap.size < _; omega) _).setCell (by show w.heap.size < _; omega) _).node (by simp) |>.keep (fun _ _ _ => rfl) (fun k hk _ => by omega)
        · have h41 : ((s[n].toNat : Int) == 41) = false := by assumption
          have h32 : ((s[n].toNat : Int) != 32) = true := by assumption
          have h41' : byteAt s n ≠ 41 := by rw [byteAt_lt s n hns]; have h := h41; simp at h; omega
          have h32' : byteAt s n ≠ 32 := by rw [byteAt_lt s n hns]; have h := h32; simp at h; omega
          have hrd' : rd s (k + 1) i = none := by
            rw [HRD.out s.size (by omega), rdL, HR.out]; simp [hns, h41', h32']
          have hbl := paren_close hbel HB0.out HB1.out HAB.out HTS.out HOWN.out hb1 ht HG.out HO.out HW.out
          refine bodyPost_ret (v := .tuple #[.agg #[.string ByteArray.empty, .slice (some ⟨g, 0, none⟩) (acc.length + 1) kc], .int .i64 (-1)]) (by simp [results, Tryd.results31, go_sem, m0.1, m0.2.1]) rfl ?_
          go_light
          exact readPost_none hrd' (by unfold maxLen; omega) ((hbl.2.2.2.setCell (Nat.le_refl _) _).setCell (Nat.le_refl _) _)
        · have h41 : ((s[n].toNat : Int) == 41) = false := by assumption
          have h32 : ((s[n].toNat : Int) != 32) = false := by assumption
          have h41' : byteAt s n ≠ 41 := by rw [byteAt_lt s n hns]; have h := h41; simp at h; omega
          have h32' : byteAt s n = 32 := by rw [byteAt_lt s n hns]; have h := h32; simp at h; omega
          have hrd' : ∀ m, s.size < m + n → rdL s (rd s k) m n (acc ++ [p]) = rd s (k + 1) i := by
            intro m hm
            rw [rdL_more s _ hbd.out m s.size n _ hm (by omega), HRD.out s.size (by omega), rdL, HR.out]; simp [hns, h32']
          have hbl := paren_close hbel HB0.out HB1.out HAB.out HTS.out HOWN.out hb1 ht HG.out HO.out HW.out
          go_roundw
          case rel => exact ⟨n, acc ++ [p], _, _, _, rfl, by omega, hns, by simp; omega, hbl.1, hbl.2.1, hbl.2.2.1, hbl.2.2.2, hrd'⟩
          case measure => simp [intOf]; omega
      · have hne : n = s.size := by omega
        have hnone : rd s (k + 1) i = none := by
          rw [← hrd.out (s.size + 1) (by omega), rdL, HR.out]; simp [hns]
        have HN := hid hnone
        have HB0 := hid hB0
        clear hnone hrd
        go_wp2_with (go_at_call 31; refine (hc.out _).mono ?_; rintro e w1 hp; obtain ⟨pa, pp, pl, pc, rfl, hb1, ht⟩ := hp.some HR.out; clear hp; have k0 := fun o => cells_of_pair (pair_alloc (block_below hB0 hb1 (lt_of_block hB0)) o); have k1 := fun o => cells_of_pair (pair_alloc (block_below hB1 hb1 (lt_of_block hB1)) o))
        have q0 := pair_alloc (block_below HB0.out hb1 (lt_of_block HB0.out)) (.cells #[.string pa, .slice pp pl pc] 27)
        refine bodyPost_ret (v := .tuple #[.agg #[.string ByteArray.empty, .slice up ul uc], .int .i64 (-1)]) (by simp [results, Tryd.results31, go_sem, (k0 _).1, (k0 _).2.1]) rfl ?_
        go_light
        exact readPost_none HN.out (by have := hacc.len; unfold maxLen; omega) ((((hbel.trans (hb1.mono hz)).alloc (by have := hb1.size; omega) _).setCell (Nat.le_refl _) _).setCell (Nat.le_refl _) _)
set_option maxHeartbeats 1000000 in
theorem l1Read_atom (s : ByteArray) (hs : s.size ≤ 12000) (k : Nat) (i depth : Nat) (w : World) (hi : i < s.size) (hd : depth ≤ 100) (h40 : s[i].toNat ≠ 40) (hk : 0 < k) :
    Calls Tryd.prog 31 #[.string s, .int .i64 (i : Int), .int .i64 (depth : Int)] w (ReadPost s k i w) := by
  have hs' : s.size ≤ 9223372036854775807 := by omega
  have hb40 : byteAt s i ≠ 40 := by rw [byteAt_lt s i hi]; exact h40
  have H40 := hid hb40
  have e40 : ((s[i].toNat : Int) != 40) = true := by simp; omega
  clear hb40 h40
  have d1 : decide (100 < (depth : Int)) = false := by simp; omega
  have d2 : decide (s.size ≤ i) = false := by simp; omega
  go_enter Tryd.func31, Tryd.ntmps31
  go_wp2_with fail
  go_loop [1] (fun v => ∃ j : Nat, i ≤ j ∧ j ≤ s.size ∧ v = .int .i64 (j : Int) ∧ Hid (runEnd s i = runEnd s j)) (fun v => s.size - (intOf v).toNat)
  case atStart => exact ⟨i, Nat.le_refl _, by omega, rfl, rfl⟩
  case round =>
    obtain ⟨j, hj1, hj2, rfl, hj⟩ := hrel
    by_cases hlt : j < s.size
    · by_cases hab : atomB s[j].toNat = true
      · go_wp2_with (go_at_call 46; refine (l1Byte_any _ _).mono ?_; rintro e w' ⟨rfl, rfl⟩)
        go_round
        case rel => exact ⟨j + 1, by omega, by omega, by go_num, hj.out.trans (runEnd_go s j hlt (by rw [byteAt_lt s j hlt]; exact hab))⟩
        case measure => simp [intOf]; omega
      · have hab' : atomB s[j].toNat = false := by simpa using hab
        have hstop : runEnd s j = j := runEnd_stop s j (by rw [byteAt_lt s j hlt]; simp [hab'])
        have hend : Hid (j = runEnd s i) := hj.out.trans hstop |>.symm
        clear hab hstop hj
        by_cases hz : j = i
        · have he : (s.extract i j).toList.isEmpty = true := by rw [hz]; exact extract_empty_t s i
          have HZ := hid hz
          clear hz
          go_wp2_with (go_at_call 46; refine (l1Byte_any _ _).mono ?_; rintro e w' ⟨rfl, rfl⟩)
          refine bodyPost_ret (v := .tuple #[.agg #[.string (s.extract i j), .slice none 0 0], .int .i64 (-1)]) (by simp [results, Tryd.results31, go_sem]) rfl ?_
          exact readPost_none (rd_none_atom hk hi H40.out (by rw [← hend.out, HZ.out])) (by simp) (((Below.refl _ _).alloc (by simp) _).alloc (by simp) _)
        · have he : (s.extract i j).toList.isEmpty = false := extract_empty_f s i j (by omega) hj2
          go_wp2_with (go_at_call 46; refine (l1Byte_any _ _).mono ?_; rintro e w' ⟨rfl, rfl⟩)
          refine bodyPost_ret (v := .tuple #[.agg #[.string (s.extract i j), .slice none 0 0], .int .i64 (j : Int)]) (by simp [results, Tryd.results31, go_sem]) rfl ?_
          exact readPost_atom hk (by unfold maxLen; omega) hi H40.out hend.out hz (((Below.refl _ _).alloc (by simp) _).alloc (by simp) _)
    · have hstop : runEnd s j = j := runEnd_stop s j (by omega)
      have hend : Hid (j = runEnd s i) := hj.out.trans hstop |>.symm
      clear hstop hj
      have hz : j ≠ i := by omega
      have he : (s.extract i j).toList.isEmpty = false := extract_empty_f s i j (by omega) hj2
      go_wp2_with (go_at_call 46; refine (l1Byte_any _ _).mono ?_; rintro e w' ⟨rfl, rfl⟩)
      refine bodyPost_ret (v := .tuple #[.agg #[.string (s.extract i j), .slice none 0 0], .int .i64 (j : Int)]) (by simp [results, Tryd.results31, go_sem]) rfl ?_
      exact readPost_atom hk (by unfold maxLen; omega) hi H40.out hend.out hz (((Below.refl _ _).alloc (by simp) _).alloc (by simp) _)

set_option maxHeartbeats 1000000 in
theorem l1Read_end (s : ByteArray) (hs : s.size ≤ 12000) (k : Nat) (i depth : Nat) (w : World) (hd : depth ≤ 101) (hr : rd s k i = none) (hc : 100 < depth ∨ s.size ≤ i) :
    Calls Tryd.prog 31 #[.string s, .int .i64 (i : Int), .int .i64 (depth : Int)] w (ReadPost s k i w) := by
  have hs' : s.size ≤ 9223372036854775807 := by omega
  have HR := hid hr
  clear hr
  by_cases h1 : 100 < depth
  · clear hc
    go_enter Tryd.func31, Tryd.ntmps31
    go_wp2_with fail
    refine bodyPost_ret (v := .tuple #[.agg #[.string ByteArray.empty, .slice none 0 0], .int .i64 (-1)]) (by simp [results, Tryd.results31, go_sem]; rfl) rfl ?_
    exact readPost_none HR.out (Nat.zero_le _) (((Below.refl _ _).alloc (by simp) _).alloc (by simp) _)
  · have h2 : s.size ≤ i := hc.resolve_left h1
    have h3 : depth ≤ 100 := by omega
    clear hc h1
    go_enter Tryd.func31, Tryd.ntmps31
    go_wp2_with fail
    refine bodyPost_ret (v := .tuple #[.agg #[.string ByteArray.empty, .slice none 0 0], .int .i64 (-1)]) (by simp [results, Tryd.results31, go_sem]; rfl) rfl ?_
    exact readPost_none HR.out (Nat.zero_le _) (((Below.refl _ _).alloc (by simp) _).alloc (by simp) _)

/-- THE MODEL's READING OF A PART. -/
theorem l1Read_any (s : ByteArray) (hs : s.size ≤ 12000) (k : Nat) : ∀ (i depth : Nat) (w : World), i ≤ s.size → depth + k = 101 →
    Calls Tryd.prog 31 #[.string s, .int .i64 (i : Int), .int .i64 (depth : Int)] w (ReadPost s k i w) := by
  induction k with
  | zero => intro i depth w hi hd; exact l1Read_end s hs 0 i depth w (by omega) rfl (Or.inl (by omega))
  | succ k ih =>
    intro i depth w hi hd
    by_cases hlt : i < s.size
    · by_cases h40 : s[i].toNat = 40
      · exact l1Read_paren s hs k ih i depth w hlt hd h40
      · exact l1Read_atom s hs (k + 1) i depth w hlt (by omega) h40 (by omega)
    · exact l1Read_end s hs (k + 1) i depth w (by omega) (rd_none_end hlt) (Or.inr (by omega))

end Go.Proofs.YtfogjomebcponaaDoor
