/- The program's reading of a part: phraseAt, listAt. -/
import Derived.Test.YtfogjomebcponaaDoorSpecC
namespace Go.Proofs.YtfogjomebcponaaDoor
open Go.RowKit

set_option maxHeartbeats 400000 in
theorem isAtomByte_any (c : Nat) (w : World) :
    Calls Tryd.prog 48 #[.int .u8 (c : Int)] w fun e w' => e = .returned (.bool (atomB c)) ∧ w = w' := by
  go_enter Tryd.func48, Tryd.ntmps48
  go_wp2
  all_goals
    go_ret
    refine ⟨ret_bool ?_, rfl⟩
    first
    | exact (atomB_t (by omega)).symm
    | (rw [Bool.eq_iff_iff]; simp [atomB]; omega)

theorem Tryd.infoPhrase : (Tryd.prog.info? 45).map (fun i => (i.zero, i.size, i.bytes)) = some (some (.agg #[.string ByteArray.empty, .slice none 0 0]), 2, 40) := by kernel_rfl

/-- What the program's reading of a part leaves. -/
def PhrasePost (s : ByteArray) (k i : Nat) (w : World) (e : Ending) (w' : World) : Prop :=
  Below w.heap.size w w' ∧
  match rd s k i with
  | some (t, n) => ∃ h : Hd, e = .returned (.tuple #[.agg #[.string h.a, .slice h.p h.l h.c], .int .i64 (n : Int), .bool true]) ∧ TIn w' (fun b => w.heap.size ≤ b) t h
  | none => ∃ a p l c, ∃ m : Int, e = .returned (.tuple #[.agg #[.string a, .slice p l c], .int .i64 m, .bool false]) ∧ l ≤ maxLen
theorem phrasePost_none {s : ByteArray} {k i : Nat} {w w' : World} {a : ByteArray} {p : Option Addr} {l c : Nat} {m : Int} (h : rd s k i = none) (hl : l ≤ maxLen) (hb : Below w.heap.size w w') :
    PhrasePost s k i w (.returned (.tuple #[.agg #[.string a, .slice p l c], .int .i64 m, .bool false])) w' := by
  refine ⟨hb, ?_⟩
  rw [h]; exact ⟨a, p, l, c, m, rfl, hl⟩
theorem phrasePost_some {s : ByteArray} {k i n : Nat} {t : Tree} {w w' : World} {a : ByteArray} {p : Option Addr} {l c : Nat} (h : rd s k i = some (t, n)) (ht : TIn w' (fun b => w.heap.size ≤ b) t ⟨a, p, l, c⟩) (hb : Below w.heap.size w w') :
    PhrasePost s k i w (.returned (.tuple #[.agg #[.string a, .slice p l c], .int .i64 (n : Int), .bool true])) w' := by
  refine ⟨hb, ?_⟩
  rw [h]; exact ⟨⟨a, p, l, c⟩, rfl, ht⟩
theorem PhrasePost.none {s : ByteArray} {k i : Nat} {w w' : World} {e : Ending} (h : PhrasePost s k i w e w') (hr : rd s k i = none) :
    ∃ a p l c, ∃ m : Int, e = .returned (.tuple #[.agg #[.string a, .slice p l c], .int .i64 m, .bool false]) ∧ l ≤ maxLen ∧ Below w.heap.size w w' := by
  obtain ⟨hb, h⟩ := h
  rw [hr] at h
  obtain ⟨a, p, l, c, m, he, hl⟩ := h
  exact ⟨a, p, l, c, m, he, hl, hb⟩
theorem PhrasePost.some {s : ByteArray} {k i n : Nat} {t : Tree} {w w' : World} {e : Ending} (h : PhrasePost s k i w e w') (hr : rd s k i = some (t, n)) :
    ∃ a p l c, e = .returned (.tuple #[.agg #[.string a, .slice p l c], .int .i64 (n : Int), .bool true]) ∧ Below w.heap.size w w' ∧ TIn w' (fun b => w.heap.size ≤ b) t ⟨a, p, l, c⟩ := by
  obtain ⟨hb, h⟩ := h
  rw [hr] at h
  obtain ⟨h, he, ht⟩ := h
  exact ⟨h.a, h.p, h.l, h.c, he, hb, ht⟩

/-- What a round that reads a part leaves: the list's block and the result's, what has been gathered, old memory. -/
theorem round_close {w wr w1 w2 : World} {e : TypeId} {up : Option Addr} {ul uc g kc : Nat} {acc : List Tree} {ab : List Hd} {p : Tree} {pa : ByteArray} {pp : Option Addr} {pl pc : Nat} {o1 o2 : Obj}
    (hbel : Below w.heap.size w wr) (hB0 : wr.heap[w.heap.size]? = some (.cells #[.string ByteArray.empty, .slice none 0 0] e (0, 0))) (hB1 : wr.heap[w.heap.size + 1]? = some (.cells #[.string ByteArray.empty, .slice up ul uc] e (0, 0)))
    (hl : ab.length = acc.length) (ht : ∀ (i : Nat) (p : Tree) (x : Hd), acc[i]? = some p → ab[i]? = some x → TIn wr (fun b => w.heap.size + 2 ≤ b ∧ (Value.slice up ul uc).ownBlock ≠ some b) p x)
    (hown : wr.ownsRow (w.heap.size + 2) e 2 (.slice up ul uc) acc.length (two ab))
    (hb1 : Below wr.heap.size wr w1) (hn : TIn w1 (fun b => wr.heap.size ≤ b) p ⟨pa, pp, pl, pc⟩)
    (hg : ((w1.alloc o1).alloc o2).grownBy w2 (Value.slice up ul uc).ownBlock)
    (ho : w2.ownsRow (w.heap.size + 2) e 2 (.slice (some ⟨g, 0, none⟩) (acc.length + 1) kc) (acc.length + 1) (two ab ++ [.string pa, .slice pp pl pc]))
    (hw : (Value.slice (some ⟨g, 0, none⟩) (acc.length + 1) kc).ownBlock = (Value.slice up ul uc).ownBlock ∨ (Value.slice (some ⟨g, 0, none⟩) (acc.length + 1) kc).ownBlock = some ((w1.alloc o1).alloc o2).heap.size) :
    (w2.setCell ⟨w.heap.size + 1, 1, none⟩ (.slice (some ⟨g, 0, none⟩) (acc.length + 1) kc)).heap[w.heap.size]? = some (.cells #[.string ByteArray.empty, .slice none 0 0] e (0, 0)) ∧
    (w2.setCell ⟨w.heap.size + 1, 1, none⟩ (.slice (some ⟨g, 0, none⟩) (acc.length + 1) kc)).heap[w.heap.size + 1]? = some (.cells #[.string ByteArray.empty, .slice (some ⟨g, 0, none⟩) (acc.length + 1) kc] e (0, 0)) ∧
    AccIn (w2.setCell ⟨w.heap.size + 1, 1, none⟩ (.slice (some ⟨g, 0, none⟩) (acc.length + 1) kc)) (w.heap.size + 2) e (.slice (some ⟨g, 0, none⟩) (acc.length + 1) kc) (acc ++ [p]) ∧
    Below w.heap.size w (w2.setCell ⟨w.heap.size + 1, 1, none⟩ (.slice (some ⟨g, 0, none⟩) (acc.length + 1) kc)) := by
  have hlt := hown.lt
  have l0 := lt_of_block hB0
  have l1 := lt_of_block hB1
  have s1 := hb1.size
  have s0 := hbel.size
  have hba : Below w1.heap.size w1 ((w1.alloc o1).alloc o2) := ((Below.refl _ _).alloc (Nat.le_refl _) _).alloc (by simp) _
  have q0 := block_grown (pair_alloc (pair_alloc (block_below hB0 hb1 l0) o1) o2) hg (fun e => by have := hlt _ e; omega)
  have q1 := block_grown (pair_alloc (pair_alloc (block_below hB1 hb1 l1) o1) o2) hg (fun e => by have := hlt _ e; omega)
  have hacc := AccIn.more (a := ⟨pa, pp, pl, pc⟩) hl ht hown (by omega) hb1 hn hba ho hg hw
  refine ⟨?_, pair_setCell1 q1, hacc.setCell (by show w.heap.size + 1 < _; omega) _, ?_⟩
  · rw [Below.heap_setCell _ _ _ _ (by simp)]; exact q0
  · refine ((hbel.trans (hb1.mono s0)).trans (hba.mono (by omega))).grown hg (by simp; omega) (fun k e => ?_) |>.setCell (by show w.heap.size ≤ w.heap.size + 1; omega) _
    have := hlt k e; omega

set_option maxRecDepth 100000 in
set_option maxHeartbeats 1000000 in
theorem listAt_any (s : ByteArray) (hs : s.size ≤ 12000) (k : Nat) (ih : ∀ (i depth : Nat) (w : World), i ≤ s.size → depth + k = 101 →
      Calls Tryd.prog 34 #[.string s, .int .i64 (i : Int), .int .i64 (depth : Int)] w (PhrasePost s k i w))
    (i depth : Nat) (w : World) (hi : i < s.size) (hd : depth + (k + 1) = 101) (hd9 : depth < 100) (hb40 : byteAt s i = 40) :
    Calls Tryd.prog 47 #[.string s, .int .i64 (i : Int), .int .i64 (depth : Int)] w (PhrasePost s (k + 1) i w) := by
  have hs' : s.size ≤ 9223372036854775807 := by omega
  have HD := hid hd
  have HB40 := hid hb40
  have IH := hid ih
  have d1 : ((depth : Int) == 100) = false := beq_eq_false_iff_ne.2 (by omega)
  have hbd := hid (rd_bound s k)
  clear hd hb40 ih
  go_enter Tryd.func47, Tryd.ntmps47
  go_wp2_with fail
  go_loopw [1] (fun v wr => ∃ (j : Nat) (acc : List Tree) (up : Option Addr) (ul uc : Nat), v = .int .i64 (j : Int) ∧ i ≤ j ∧ j < s.size ∧ acc.length ≤ j ∧
      wr.heap[w.heap.size]? = some (.cells #[.string ByteArray.empty, .slice none 0 0] 45 (0, 0)) ∧ wr.heap[w.heap.size + 1]? = some (.cells #[.string ByteArray.empty, .slice up ul uc] 45 (0, 0)) ∧
      AccIn wr (w.heap.size + 2) 45 (.slice up ul uc) acc ∧ Below w.heap.size w wr ∧ Hid (∀ n, s.size < n + j → rdL s (rd s k) n j acc = rd s (k + 1) i)) (fun v _ => s.size - (intOf v).toNat)
  case atStart =>
    refine ⟨i, [], none, 0, 0, rfl, Nat.le_refl _, hi, Nat.zero_le _, ?_, ?_, AccIn.nil _ _ _, ((Below.refl _ _).alloc (by simp) _).alloc (by simp) _, fun n hn => ?_⟩
    · exact pair_alloc (heap_alloc_new w _) _
    · exact heap_new _ _ _ (by simp)
    · rw [rd_paren hi HB40.out]; exact rdL_more s _ hbd.out n _ i _ hn (by omega)
  case round =>
    obtain ⟨j, acc, up, ul, uc, rfl, hj1, hj2, hj3, hB0, hB1, hacc, hbel, hrd⟩ := hrel
    have hc := hid (fun W => IH.out (j + 1) (depth + 1) W (by omega) (by have := HD.out; omega))
    cases hr : rd s k (j + 1) with
    | none =>
      have HR := hid hr
      clear hr
      have hz := hbel.size
      have hnone : rd s (k + 1) i = none := by
        rw [← hrd.out (s.size + 1) (by omega), rdL, HR.out]
      have HN := hid hnone
      have HB0 := hid hB0
      clear hnone hrd
      go_wp2_with (go_at_call 34; refine (hc.out _).mono ?_; rintro e w1 hp; obtain ⟨pa, pp, pl, pc, pm, rfl, hpl, hb1⟩ := hp.none HR.out; clear hp; have k0 := fun o => cells_of_pair (pair_alloc (block_below hB0 hb1 (lt_of_block hB0)) o); have k1 := fun o => cells_of_pair (pair_alloc (block_below hB1 hb1 (lt_of_block hB1)) o))
      refine bodyPost_ret (v := .tuple #[.agg #[.string ByteArray.empty, .slice none 0 0], .int .i64 0, .bool false]) (by simp [results, Tryd.results47, go_sem, (k0 _).1, (k0 _).2.1]; rfl) rfl ?_
      go_light
      exact phrasePost_none HN.out (Nat.zero_le _) ((((hbel.trans (hb1.mono hz)).alloc (by have := hb1.size; omega) _).setCell (Nat.le_refl _) _).setCell (Nat.le_refl _) _)
    | some x =>
      obtain ⟨p, n⟩ := x
      have HR := hid hr
      clear hr
      have hn := hbd.out _ _ _ HR.out
      have hz := hbel.size
      have hzz := hid (lt_of_block hB1)
      by_cases hns : n < s.size
      · have d2 : ((n : Int) == (s.size : Int)) = false := beq_eq_false_iff_ne.2 (by omega)
        have HRD := hid (fun m (hm : s.size < m + 1 + j) => (hrd.out (m + 1) hm).symm)
        clear hrd
        obtain ⟨i0, hi0, hz0, hz1, hz2⟩ := info_parts Tryd.infoPhrase
        obtain ⟨ab, hab, hown, hts⟩ := hacc
        have HTS := hid hts
        clear hts
        have HOWN := hid hown
        have HAB := hid hab
        have HB0 := hid hB0
        have HB1 := hid hB1
        clear hown hab
        have hlt := HOWN.out.lt
        have HLT := hid hlt
        clear hlt
        go_wp2_with (first | (at_builtin; refine wpList_append_at _ rfl (.tmp 36) (.tmp 38) 43 rfl (w.heap.size + 2) 45 i0 (.agg #[.string ByteArray.empty, .slice none 0 0]) 2 40 Tryd.underlying43 hi0 hz0 hz1 hz2 rfl (by decide) (.slice up ul uc) acc.length (two ab) rfl (((ownsRow_under HOWN.out hb1).alloc _).alloc _) ⟨w1.heap.size + 1, 0, none⟩ 1 1 [.string pa, .slice pp pl pc] rfl rfl (cells_new2 _ _ _ _ _ (by simp)) (by intro u hu; simp at hu; rcases hu with rfl | rfl <;> rfl) (by decide) (by unfold maxLen; omega) (by omega) (by have := hb1.size; simp; omega) ?_; intro v' w2 hown2 hg2 hw2 hv2; obtain ⟨g, kc, rfl⟩ := hv2; have m0 := cells_of_pair (block_grown (pair_alloc (pair_alloc (block_below hB0 hb1 (lt_of_block hB0)) _) _) hg2 (fun e => by have := HLT.out _ e; omega)); have m1 := cells_of_pair (block_grown (pair_alloc (pair_alloc (block_below hB1 hb1 (lt_of_block hB1)) _) _) hg2 (fun e => by have := HLT.out _ e; omega)); have HG := hid hg2; have HO := hid hown2; have HW := hid hw2; clear hg2 hown2 hw2) | (go_at_call 34; refine (hc.out _).mono ?_; rintro e w1 hp; obtain ⟨pa, pp, pl, pc, rfl, hb1, ht⟩ := hp.some HR.out; clear hp; have k0 := fun o => cells_of_pair (pair_alloc (block_below hB0 hb1 (lt_of_block hB0)) o); have k1 := fun o => cells_of_pair (pair_alloc (block_below hB1 hb1 (lt_of_block hB1)) o)))
        · have h41 : ((s[n].toNat : Int) == 41) = true := by assumption
          have h41' : byteAt s n = 41 := by rw [byteAt_lt s n hns]; have h := h41; simp at h; omega
          have hrd' : rd s (k + 1) i = some (.node (acc ++ [p]), n + 1) := by
            rw [HRD.out s.size (by omega), rdL, HR.out]; simp [hns, h41']
          have hbl := round_close hbel HB0.out HB1.out HAB.out HTS.out HOWN.out hb1 ht HG.out HO.out HW.out
          refine bodyPost_ret (v := .tuple #[.agg #[.string ByteArray.empty, .slice (some ⟨g, 0, none⟩) (acc.length + 1) kc], .int .i64 ((n + 1 : Nat) : Int), .bool true]) (by simp [results, Tryd.results47, go_sem, m0.1, m0.2.1]) rfl ?_
          go_light
          refine phrasePost_some hrd' ?_ ((hbl.2.2.2.setCell (Nat.le_refl _) _).setCell (Nat.le_refl _) _)
          exact ((hbl.2.2.1.setCell (by show w.heap.size < _; omega) _).setCell (by show w.heap.size < _; omega) _).node (by simp) |>.keep (fun _ _ _ => rfl) (fun k hk _ => by omega)
        · have h41 : ((s[n].toNat : Int) == 41) = false := by assumption
          have h32 : ((s[n].toNat : Int) == 32) = true := by assumption
          have h41' : byteAt s n ≠ 41 := by rw [byteAt_lt s n hns]; have h := h41; simp at h; omega
          have h32' : byteAt s n = 32 := by rw [byteAt_lt s n hns]; have h := h32; simp at h; omega
          have hrd' : ∀ m, s.size < m + n → rdL s (rd s k) m n (acc ++ [p]) = rd s (k + 1) i := by
            intro m hm
            rw [rdL_more s _ hbd.out m s.size n _ hm (by omega), HRD.out s.size (by omega), rdL, HR.out]; simp [hns, h32']
          have hbl := round_close hbel HB0.out HB1.out HAB.out HTS.out HOWN.out hb1 ht HG.out HO.out HW.out
          go_roundw
          case rel => exact ⟨n, acc ++ [p], _, _, _, rfl, by omega, hns, by simp; omega, hbl.1, hbl.2.1, hbl.2.2.1, hbl.2.2.2, hrd'⟩
          case measure => simp [intOf]; omega
        · have h41 : ((s[n].toNat : Int) == 41) = false := by assumption
          have h32 : ((s[n].toNat : Int) == 32) = false := by assumption
          have h41' : byteAt s n ≠ 41 := by rw [byteAt_lt s n hns]; have h := h41; simp at h; omega
          have h32' : byteAt s n ≠ 32 := by rw [byteAt_lt s n hns]; have h := h32; simp at h; omega
          have hrd' : rd s (k + 1) i = none := by
            rw [HRD.out s.size (by omega), rdL, HR.out]; simp [hns, h41', h32']
          have hbl := round_close hbel HB0.out HB1.out HAB.out HTS.out HOWN.out hb1 ht HG.out HO.out HW.out
          refine bodyPost_ret (v := .tuple #[.agg #[.string ByteArray.empty, .slice none 0 0], .int .i64 0, .bool false]) (by simp [results, Tryd.results47, go_sem, m0.1, m0.2.1]; rfl) rfl ?_
          go_light
          exact phrasePost_none hrd' (Nat.zero_le _) ((hbl.2.2.2.setCell (Nat.le_refl _) _).setCell (Nat.le_refl _) _)
      · have hne : n = s.size := by omega
        have hnone : rd s (k + 1) i = none := by
          rw [← hrd.out (s.size + 1) (by omega), rdL, HR.out]; simp [hns]
        have HN := hid hnone
        have HB0 := hid hB0
        have d2 : ((n : Int) == (s.size : Int)) = true := beq_iff_eq.2 (by omega)
        clear hnone hrd hne
        go_wp2_with (go_at_call 34; refine (hc.out _).mono ?_; rintro e w1 hp; obtain ⟨pa, pp, pl, pc, rfl, hb1, ht⟩ := hp.some HR.out; clear hp; have k0 := fun o => cells_of_pair (pair_alloc (block_below hB0 hb1 (lt_of_block hB0)) o); have k1 := fun o => cells_of_pair (pair_alloc (block_below hB1 hb1 (lt_of_block hB1)) o))
        refine bodyPost_ret (v := .tuple #[.agg #[.string ByteArray.empty, .slice none 0 0], .int .i64 0, .bool false]) (by simp [results, Tryd.results47, go_sem, (k0 _).1, (k0 _).2.1]; rfl) rfl ?_
        go_light
        exact phrasePost_none HN.out (Nat.zero_le _) ((((hbel.trans (hb1.mono hz)).alloc (by have := hb1.size; omega) _).setCell (Nat.le_refl _) _).setCell (Nat.le_refl _) _)

set_option maxHeartbeats 1000000 in
theorem listAt_deep (s : ByteArray) (i : Nat) (w : World) (hr : rd s 1 i = none) :
    Calls Tryd.prog 47 #[.string s, .int .i64 (i : Int), .int .i64 ((100 : Nat) : Int)] w (PhrasePost s 1 i w) := by
  have HR := hid hr
  clear hr
  go_enter Tryd.func47, Tryd.ntmps47
  go_wp2_with fail
  refine bodyPost_ret (v := .tuple #[.agg #[.string ByteArray.empty, .slice none 0 0], .int .i64 0, .bool false]) (by simp [results, Tryd.results47, go_sem]; rfl) rfl ?_
  exact phrasePost_none HR.out (Nat.zero_le _) ((Below.refl _ _).alloc (by simp) _)

theorem phrasePost_atom {s : ByteArray} {k i n : Nat} {w w' : World} (hk : 0 < k) (hs : s.size ≤ maxLen) (hi : i ≤ s.size) (h40 : i < s.size → byteAt s i ≠ 40) (hn : n = runEnd s i) (hb : Below w.heap.size w w') :
    PhrasePost s k i w (.returned (.tuple #[.agg #[.string (s.extract i n), .slice none 0 0], .int .i64 (n : Int), .bool (decide ((i : Int) < (n : Int)))])) w' := by
  have h1 := runEnd_ge s i
  have h2 := runEnd_le s i hi
  by_cases hlt : i < s.size
  · by_cases hne : n = i
    · have d : decide ((i : Int) < (n : Int)) = false := decide_eq_false (by omega)
      rw [d]; exact phrasePost_none (rd_none_atom hk hlt (h40 hlt) (by omega)) (Nat.zero_le _) hb
    · have d : decide ((i : Int) < (n : Int)) = true := decide_eq_true (by omega)
      rw [d]
      refine phrasePost_some ?_ (.atom _ ?_ ?_) hb
      · rw [hn]; exact rd_some_atom hk hlt (h40 hlt) (by omega)
      · simp [ByteArray.size_extract]; omega
      · simp [ByteArray.size_extract]; omega
  · have d : decide ((i : Int) < (n : Int)) = false := decide_eq_false (by omega)
    rw [d]; exact phrasePost_none (rd_none_end hlt) (Nat.zero_le _) hb

set_option maxRecDepth 100000 in
set_option maxHeartbeats 1000000 in
theorem phraseAt_atom (s : ByteArray) (hs : s.size ≤ 12000) (k : Nat) (i depth : Nat) (w : World) (hi : i ≤ s.size) (hk : 0 < k) (h40 : i < s.size → byteAt s i ≠ 40) :
    Calls Tryd.prog 34 #[.string s, .int .i64 (i : Int), .int .i64 (depth : Int)] w (PhrasePost s k i w) := by
  have hs' : s.size ≤ 9223372036854775807 := by omega
  have H40 := hid h40
  have e0 : ∀ h : i < s.size, ((s[i].toNat : Int) == 40) = false := fun h => beq_eq_false_iff_ne.2 (by have := h40 h; rw [byteAt_lt s i h] at this; omega)
  clear h40
  by_cases hil : i < s.size
  · have e40 := e0 hil
    clear e0
    go_enter Tryd.func34, Tryd.ntmps34
    go_wp2_with fail
    go_loop [9] (fun v => ∃ j : Nat, i ≤ j ∧ j ≤ s.size ∧ v = .int .i64 (j : Int) ∧ Hid (runEnd s i = runEnd s j)) (fun v => s.size - (intOf v).toNat)
    case atStart => exact ⟨i, Nat.le_refl _, by omega, rfl, rfl⟩
    case round =>
      obtain ⟨j, hj1, hj2, rfl, hj⟩ := hrel
      by_cases hlt : j < s.size
      · by_cases hab : atomB s[j].toNat = true
        · go_wp2_with (go_at_call 48; refine (isAtomByte_any _ _).mono ?_; rintro e w' ⟨rfl, rfl⟩)
          go_round
          case rel => exact ⟨j + 1, by omega, by omega, by go_num, hj.out.trans (runEnd_go s j hlt (by rw [byteAt_lt s j hlt]; exact hab))⟩
          case measure => simp [intOf]; omega
        · have hab' : atomB s[j].toNat = false := by simpa using hab
          have hstop : runEnd s j = j := runEnd_stop s j (by rw [byteAt_lt s j hlt]; simp [hab'])
          have hend : Hid (j = runEnd s i) := hj.out.trans hstop |>.symm
          clear hab hstop hj
          go_wp2_with (go_at_call 48; refine (isAtomByte_any _ _).mono ?_; rintro e w' ⟨rfl, rfl⟩)
          refine bodyPost_ret (v := .tuple #[.agg #[.string (s.extract i j), .slice none 0 0], .int .i64 (j : Int), .bool (decide ((i : Int) < (j : Int)))]) (by simp [results, Tryd.results34, go_sem]) rfl ?_
          exact phrasePost_atom hk (by unfold maxLen; omega) hi H40.out hend.out ((Below.refl _ _).alloc (by simp) _)
      · have hstop : runEnd s j = j := runEnd_stop s j (by omega)
        have hend : Hid (j = runEnd s i) := hj.out.trans hstop |>.symm
        clear hstop hj
        go_wp2_with (go_at_call 48; refine (isAtomByte_any _ _).mono ?_; rintro e w' ⟨rfl, rfl⟩)
        refine bodyPost_ret (v := .tuple #[.agg #[.string (s.extract i j), .slice none 0 0], .int .i64 (j : Int), .bool (decide ((i : Int) < (j : Int)))]) (by simp [results, Tryd.results34, go_sem]) rfl ?_
        exact phrasePost_atom hk (by unfold maxLen; omega) hi H40.out hend.out ((Below.refl _ _).alloc (by simp) _)
  · clear e0
    go_enter Tryd.func34, Tryd.ntmps34
    go_wp2_with fail
    go_loop [9] (fun v => ∃ j : Nat, i ≤ j ∧ j ≤ s.size ∧ v = .int .i64 (j : Int) ∧ Hid (runEnd s i = runEnd s j)) (fun v => s.size - (intOf v).toNat)
    case atStart => exact ⟨i, Nat.le_refl _, by omega, rfl, rfl⟩
    case round =>
      obtain ⟨j, hj1, hj2, rfl, hj⟩ := hrel
      by_cases hlt : j < s.size
      · exact absurd (show i < s.size by omega) hil
      · have hstop : runEnd s j = j := runEnd_stop s j (by omega)
        have hend : Hid (j = runEnd s i) := hj.out.trans hstop |>.symm
        clear hstop hj
        go_wp2_with (go_at_call 48; refine (isAtomByte_any _ _).mono ?_; rintro e w' ⟨rfl, rfl⟩)
        refine bodyPost_ret (v := .tuple #[.agg #[.string (s.extract i j), .slice none 0 0], .int .i64 (j : Int), .bool (decide ((i : Int) < (j : Int)))]) (by simp [results, Tryd.results34, go_sem]) rfl ?_
        exact phrasePost_atom hk (by unfold maxLen; omega) hi H40.out hend.out ((Below.refl _ _).alloc (by simp) _)

set_option maxHeartbeats 1000000 in
theorem phraseAt_paren (s : ByteArray) (hs : s.size ≤ 12000) (k : Nat) (i depth : Nat) (w : World) (hi : i < s.size) (h40 : byteAt s i = 40)
    (hl : ∀ w, Calls Tryd.prog 47 #[.string s, .int .i64 (i : Int), .int .i64 (depth : Int)] w (PhrasePost s k i w)) :
    Calls Tryd.prog 34 #[.string s, .int .i64 (i : Int), .int .i64 (depth : Int)] w (PhrasePost s k i w) := by
  have hs' : s.size ≤ 9223372036854775807 := by omega
  have e40 : ((s[i].toNat : Int) == 40) = true := beq_iff_eq.2 (by rw [byteAt_lt s i hi] at h40; omega)
  have HL := hid hl
  clear h40 hl
  cases hr : rd s k i with
  | none =>
    have HR := hid hr
    clear hr
    go_enter Tryd.func34, Tryd.ntmps34
    go_wp2_with (go_at_call 47; refine (HL.out _).mono ?_; rintro e w1 hp; obtain ⟨pa, pp, pl, pc, pm, rfl, hpl, hb1⟩ := hp.none HR.out; clear hp; have k0 := cells_of_pair (block_below (heap_new w (.cells #[.string ByteArray.empty, .slice none 0 0] 45) _ rfl) hb1 (by simp)))
    refine bodyPost_ret (v := .tuple #[.agg #[.string pa, .slice pp pl pc], .int .i64 pm, .bool false]) (by simp [results, Tryd.results34, go_sem, k0.1, k0.2.1]) rfl ?_
    go_light
    exact phrasePost_none HR.out hpl (((((Below.refl w.heap.size w).alloc (Nat.le_refl _) _).trans (hb1.mono (by simp))).setCell (Nat.le_refl _) _).setCell (Nat.le_refl _) _)
  | some x =>
    obtain ⟨t, n⟩ := x
    have HR := hid hr
    clear hr
    go_enter Tryd.func34, Tryd.ntmps34
    go_wp2_with (go_at_call 47; refine (HL.out _).mono ?_; rintro e w1 hp; obtain ⟨pa, pp, pl, pc, rfl, hb1, ht⟩ := hp.some HR.out; clear hp; have k0 := cells_of_pair (block_below (heap_new w (.cells #[.string ByteArray.empty, .slice none 0 0] 45) _ rfl) hb1 (by simp)))
    refine bodyPost_ret (v := .tuple #[.agg #[.string pa, .slice pp pl pc], .int .i64 (n : Int), .bool true]) (by simp [results, Tryd.results34, go_sem, k0.1, k0.2.1]) rfl ?_
    go_light
    refine phrasePost_some HR.out ?_ (((((Below.refl w.heap.size w).alloc (Nat.le_refl _) _).trans (hb1.mono (by simp))).setCell (Nat.le_refl _) _).setCell (Nat.le_refl _) _)
    refine ht.keep (fun k hk _ => ?_) (fun k hk _ => by simp at hk; omega)
    simp at hk
    rw [Below.heap_setCell _ _ _ _ (by simp; omega), Below.heap_setCell _ _ _ _ (by simp; omega)]

/-- THE PROGRAM's READING OF A PART. -/
theorem phraseAt_any (s : ByteArray) (hs : s.size ≤ 12000) (k : Nat) : ∀ (i depth : Nat) (w : World), i ≤ s.size → depth + (k + 1) = 101 →
    Calls Tryd.prog 34 #[.string s, .int .i64 (i : Int), .int .i64 (depth : Int)] w (PhrasePost s (k + 1) i w) := by
  induction k with
  | zero =>
    intro i depth w hi hd
    by_cases hp : i < s.size ∧ byteAt s i = 40
    · obtain rfl : depth = 100 := by omega
      exact phraseAt_paren s hs 1 i 100 w hp.1 hp.2 (fun w => listAt_deep s i w (by rw [rd_paren hp.1 hp.2]; rfl))
    · exact phraseAt_atom s hs 1 i depth w hi (by omega) (fun h e => hp ⟨h, e⟩)
  | succ k ih =>
    intro i depth w hi hd
    by_cases hp : i < s.size ∧ byteAt s i = 40
    · exact phraseAt_paren s hs (k + 2) i depth w hp.1 hp.2 (fun w => listAt_any s hs (k + 1) ih i depth w hp.1 hd (by omega) hp.2)
    · exact phraseAt_atom s hs (k + 2) i depth w hi (by omega) (fun h e => hp ⟨h, e⟩)
end Go.Proofs.YtfogjomebcponaaDoor
