/- The library's strings.Builder at this translation: copyCheck, WriteByte, WriteString, as this program's text of them has it. -/
import Derived.Test.YtfogjomebcponaaDoorShelf
import Derived.Test.YtfogjomebcponaaDoorKit
import Derived.Lib.AppendStr
import Derived.Lib.Walk
import Derived.Lib.Builder
import Derived.Laws.Externs
namespace Go.Proofs.YtfogjomebcponaaDoor
open Go.RowKit

theorem Tryd.sizeBld : (Tryd.prog.info? 66).map (·.size) = some 2 := by kernel_rfl
theorem Tryd.liesBld : liesAt Tryd.prog Tryd.prog.depth 66 (2 / Tryd.prog.cellsOf 66) 0 66 1 = true := by kernel_rfl
theorem Tryd.infoByt : (Tryd.prog.info? 5).map (fun i => (i.zero, i.size, i.bytes)) = some (some (.int .u8 0), 1, 1) := by kernel_rfl

set_option maxRecDepth 100000 in
set_option maxHeartbeats 1000000 in
theorem copyCheck_used (b : Nat) (w : World) (h0 : w.cell? ⟨b, 0, none⟩ = some (.pointer (some ⟨b, 0, none⟩))) :
    Calls Tryd.prog 51 #[.pointer (some ⟨b, 0, none⟩)] w fun e w' => e = .returned (.tuple #[]) ∧ w = w' := by
  obtain ⟨j, hj, _⟩ := Option.map_eq_some_iff.1 Tryd.sizeBld
  go_enter Tryd.func51, Tryd.ntmps51
  go_wp2
  rw [Lib.run_neq_ptr_same w _ Tryd.underlying63 hj]
  go_wp2
  go_end0
  exact ⟨rfl, rfl⟩

set_option maxRecDepth 100000 in
set_option maxHeartbeats 1000000 in
theorem copyCheck_fresh (b : Nat) (w : World) (h0 : w.cell? ⟨b, 0, none⟩ = some (.pointer none)) (hsh : w.shape? b = some (66, 2)) (hfz : w.frozen? ⟨b, 0, none⟩ = false) :
    Calls Tryd.prog 51 #[.pointer (some ⟨b, 0, none⟩)] w fun e w' => e = .returned (.tuple #[]) ∧ w' = w.setCell ⟨b, 0, none⟩ (.pointer (some ⟨b, 0, none⟩)) := by
  obtain ⟨j, hj, hjs⟩ := Option.map_eq_some_iff.1 Tryd.sizeBld
  go_enter Tryd.func51, Tryd.ntmps51
  go_wp2
  rw [Lib.run_to_unsafe w ⟨b, 0, none⟩ Tryd.underlying63 Tryd.underlying99 hj (by rw [hjs]; decide) hsh (Nat.zero_lt_succ 1)]
  simp only [Result.andThen]
  rw [Oper.upon_value]
  go_wp2
  rw [run_callFunc_extern Tryd.func58 (by kernel_rfl) (by kernel_rfl) (by kernel_rfl) (e := Extern.AbiNoEscape.same) (by kernel_rfl)]
  rw [Lib.run_noEscape]
  simp only [Result.andThen]
  rw [Oper.upon_value]
  go_wp2
  rw [Lib.run_from_unsafe w ⟨b, 0, none⟩ Tryd.underlying99 Tryd.underlying63 hj hsh Tryd.liesBld]
  simp only [Result.andThen]
  rw [Oper.upon_value]
  go_wp2
  go_end0
  exact ⟨rfl, rfl⟩

/-- An append of a string to what the call owns stays in its block, or moves to a new one. -/
theorem run_append_where_string {P : Program} (w : World) (base : Nat) (t u ty e : TypeId) (i : TypeInfo) (ht : P.underlying t = some (.slice e)) (hu : P.underlying u = some .string) (hi : P.info? e = some i) (hz : i.zero = some (.int .u8 0))
    (hsize : i.size = 1) (hby : i.bytes = 1) (v : Value) (n : Nat) (xs : List Value) (hown : w.ownsRow base e 1 v n xs) (s : ByteArray)
    (h63 : n + s.size ≤ maxLen) (hbytes : n + s.size ≤ 140737488355328) (v' : Value) (w' : World)
    (hr : (Builtin.append_ #[t, u] ty #[v, .string s]).run P w = .ok v' w') : v'.ownBlock = v.ownBlock ∨ v'.ownBlock = some w.heap.size := by
  have hsmall : n + s.size ≤ 9223372036854775807 := by simp only [maxLen] at h63; omega
  have hxl : xs.length = n := by simpa using hown.1
  rcases hown.2 with ⟨rfl, rfl⟩ | ⟨g, cap, cur, rfl, hbg, hg, hnc, hcm, hcs, htake⟩
  · by_cases hm : s.size = 0
    · have hn : Lib.strCells s = [] := List.eq_nil_of_length_eq_zero (by rw [Lib.strCells_length]; exact hm)
      have hf := Lib.run_firstCells_string (P := P) w 1 s
      rw [hm] at hf
      have hq : (Builtin.append_ #[t, u] ty #[.slice none 0 0, .string s]).run P w = .ok (.slice none 0 0) w := by
        simp [Builtin.append_, run_underlying ht, run_underlying hu, sizeOf, typeInfo, hi, hsize, Builtin.lenOf, hm, hf]
      rw [hq] at hr
      obtain ⟨rfl, rfl⟩ : _ = v' ∧ _ = w' := by simpa using hr
      exact Or.inl rfl
    · have hq := run_append_nil_string (P := P) w t u ty e i (.int .u8 0) ht hu hi hz s (by omega) (by omega) (by rw [hby]; omega)
      rw [hq] at hr
      obtain ⟨rfl, rfl⟩ : _ = v' ∧ _ = w' := by simpa using hr
      exact Or.inr rfl
  · by_cases hroom : n + s.size ≤ cap
    · have hcs' : cur.size = cap := by simpa using hcs
      have hq := Lib.run_append_room_string (P := P) w t u ty e i ht hu hi hsize g n cap cur hg s hroom (by omega)
      rw [hq] at hr
      obtain ⟨rfl, rfl⟩ : _ = v' ∧ _ = w' := by simpa using hr
      exact Or.inl rfl
    · have holds : ∀ j u, xs[j]? = some u → w.cell? ((⟨g, 0, none⟩ : Addr).add j) = some u := hown.cells (g := g) rfl
      have hq := Lib.run_append_grow_string (P := P) w t u ty e i (.int .u8 0) ht hu hi hz ⟨g, 0, none⟩ n cap xs (by rw [hsize]; simpa using hxl) holds s (by omega) (by omega) (by rw [hby]; exact growslice_fits (by omega) (by omega))
      rw [hq] at hr
      obtain ⟨rfl, rfl⟩ : _ = v' ∧ _ = w' := by simpa using hr
      exact Or.inr rfl
theorem wpList_append_str {P : Program} (w : World) {ops : Array Oper} {rest : List Oper} {o : Oper} {a : Act} {Q : Exit → Act → World → Prop} (hgd : o.guard = none) (sl x : Operand) (t u : TypeId)
    (ho : o.op = .call { callee := .builtin .append, args := #[sl, x], argTypes := #[t, u] })
    (base : Nat) (e : TypeId) (i : TypeInfo) (ht : P.underlying t = some (.slice e)) (hu : P.underlying u = some .string) (hi : P.info? e = some i) (hz : i.zero = some (.int .u8 0))
    (hsize : i.size = 1) (hby : i.bytes = 1)
    (v : Value) (n : Nat) (xs : List Value) (hs : a.eval sl = v) (hown : w.ownsRow base e 1 v n xs) (s : ByteArray) (hx : a.eval x = .string s)
    (h63 : n + s.size ≤ maxLen) (hbytes : n + s.size ≤ 140737488355328) (hbase : base ≤ w.heap.size)
    (h : ∀ v' w', w'.ownsRow base e 1 v' (n + s.size) (xs ++ Lib.strCells s) → w.grownBy w' v.ownBlock → (v'.ownBlock = v.ownBlock ∨ v'.ownBlock = some w.heap.size) → wpList P ops Q rest (a.put o.dst v') w') : wpList P ops Q (o :: rest) a w := by
  refine wpList_plain hgd fun K hK => ?_
  obtain ⟨v', w', hr, h2, h3, _⟩ := Lib.run_append_own_string (P := P) w base t u o.type e i ht hu hi hz hsize hby v n xs hown s h63 hbytes hbase
  have h4 := run_append_where_string (P := P) w base t u o.type e i ht hu hi hz hsize hby v n xs hown s h63 hbytes v' w' hr
  unfold Oper.wp execOp
  simp only [ho, resolve, invoke, builtin, Sem.run_bind, Sem.run_pure, Result.andThen_ok, List.map_toArray, List.map_cons, List.map_nil, hs, hx, hr]
  exact hK _ _ (h v' w' h2 h3 h4)

/-- A builder: its block, its row (g: which block it lies in), what it holds. -/
def Bd (w : World) (B b : Nat) (g : Option Nat) (bs : List Value) : Prop :=
  B ≤ b ∧ ∃ p v, (p = .pointer none ∨ p = .pointer (some ⟨b, 0, none⟩)) ∧ w.heap[b]? = some (.cells #[p, v] 66 (0, 0)) ∧ w.ownsRow B 5 1 v bs.length bs ∧ v.ownBlock = g ∧ g ≠ some b
/-- What a builder's methods leave alone. -/
structure Bx (b : Nat) (g g' : Option Nat) (w w' : World) : Prop where
  os : w'.os = w.os
  tape : w'.tape = w.tape
  output : w'.output = w.output
  size : w.heap.size ≤ w'.heap.size
  block : ∀ k, k < w.heap.size → k ≠ b → g ≠ some k → w'.heap[k]? = w.heap[k]?
  row : g' = g ∨ ∃ k, g' = some k ∧ w.heap.size ≤ k
theorem Bx.refl (b : Nat) (g : Option Nat) (w : World) : Bx b g g w w := ⟨rfl, rfl, rfl, Nat.le_refl _, fun _ _ _ _ => rfl, Or.inl rfl⟩
theorem Bx.trans {b : Nat} {g g1 g2 : Option Nat} {w w1 w2 : World} (h : Bx b g g1 w w1) (k : Bx b g1 g2 w1 w2) : Bx b g g2 w w2 := by
  refine ⟨k.os.trans h.os, k.tape.trans h.tape, k.output.trans h.output, Nat.le_trans h.size k.size, fun i hi hb hg => ?_, ?_⟩
  · refine (k.block i (Nat.lt_of_lt_of_le hi h.size) hb ?_).trans (h.block i hi hb hg)
    rcases h.row with e | ⟨j, e, hj⟩
    · rw [e]; exact hg
    · rw [e]; intro e2; have := Option.some.inj e2; omega
  · rcases k.row with e | ⟨j, e, hj⟩
    · rw [e]; exact h.row
    · exact Or.inr ⟨j, e, Nat.le_trans h.size hj⟩
theorem Bx.below {b : Nat} {g : Option Nat} {w w' : World} (h : Below w.heap.size w w') : Bx b g g w w' := ⟨h.os, h.tape, h.output, h.size, fun k hk _ _ => h.block k hk, Or.inl rfl⟩
theorem Bx.to_below {b B : Nat} {g g' : Option Nat} {w w' : World} (h : Bx b g g' w w') (hb : B ≤ b) (hB : B ≤ w.heap.size) (hg : ∀ k, g = some k → B ≤ k) : Below B w w' :=
  ⟨h.os, h.tape, h.output, h.size, fun k hk => h.block k (by omega) (by omega) (fun e => by have := hg k e; omega)⟩
theorem Bd.row_ge {w : World} {B b : Nat} {g : Option Nat} {bs : List Value} (h : Bd w B b g bs) : ∀ k, g = some k → B ≤ k ∧ k < w.heap.size := by
  obtain ⟨_, p, v, _, _, hown, hg, _⟩ := h
  intro k e; exact hown.lt k (hg.trans e)
theorem Bd.lt {w : World} {B b : Nat} {g : Option Nat} {bs : List Value} (h : Bd w B b g bs) : b < w.heap.size := by
  obtain ⟨_, p, v, _, hb, _⟩ := h
  exact lt_of_block hb
theorem Bd.under {w w' : World} {B b : Nat} {g : Option Nat} {bs : List Value} (h : Bd w B b g bs) (hb : Below w.heap.size w w') : Bd w' B b g bs := by
  obtain ⟨hB, p, v, hp, hh, hown, hg, hne⟩ := h
  exact ⟨hB, p, v, hp, block_below hh hb (lt_of_block hh), ownsRow_under hown hb, hg, hne⟩
theorem Bd.is {w : World} {B b : Nat} {g : Option Nat} {bs : List Value} (h : Bd w B b g bs) : Lib.IsBuilder 66 5 B b bs w := by
  obtain ⟨hB, p, v, hp, hh, hown, hg, hne⟩ := h
  have hne' : v.ownBlock ≠ some b := by rw [hg]; exact hne
  rcases hp with rfl | rfl
  · exact Or.inl ⟨hB, v, hh, hown, hne'⟩
  · exact Or.inr ⟨hB, v, hh, hown, hne'⟩
theorem Bd.new (w : World) (b : Nat) (hb : b = w.heap.size) : Bd (w.alloc (.cells #[.pointer none, .slice none 0 0] 66)) b b none [] :=
  ⟨Nat.le_refl _, .pointer none, .slice none 0 0, Or.inl rfl, heap_new _ _ _ hb, World.ownsRow_nil _ _ _ _, rfl, by simp⟩
theorem copyCheck_any (B b : Nat) (g : Option Nat) (bs : List Value) (w : World) (h : Bd w B b g bs) :
    Calls Tryd.prog 51 #[.pointer (some ⟨b, 0, none⟩)] w fun e w' => e = .returned (.tuple #[]) ∧ ∃ v, w'.heap[b]? = some (.cells #[.pointer (some ⟨b, 0, none⟩), v] 66 (0, 0)) ∧ w'.ownsRow B 5 1 v bs.length bs ∧ v.ownBlock = g ∧ Bx b g g w w' := by
  obtain ⟨hB, p, v, hp, hh, hown, hg, hne⟩ := h
  have c := cells_of_pair hh
  rcases hp with rfl | rfl
  · refine (copyCheck_fresh b w c.1 (by simp [World.shape?, hh]) c.2.2.1).mono ?_
    rintro e w' ⟨rfl, rfl⟩
    refine ⟨rfl, v, pair_setCell0 hh, ?_, hg, ⟨rfl, rfl, rfl, by simp, fun k _ hkb _ => Below.heap_setCell _ _ _ _ hkb, Or.inl rfl⟩⟩
    refine ⟨hown.1, hown.2.elim Or.inl ?_⟩
    rintro ⟨q, cap, cur, hv, hbq, hq, r⟩
    refine Or.inr ⟨q, cap, cur, hv, hbq, ?_, r⟩
    rw [Below.heap_setCell _ _ _ _ (fun e => hne (by rw [← hg, hv]; simpa [Value.ownBlock] using e))]; exact hq
  · refine (copyCheck_used b w c.1).mono ?_
    rintro e w' ⟨rfl, rfl⟩
    exact ⟨rfl, v, hh, hown, hg, Bx.refl _ _ _⟩

/-- What a writing method leaves. -/
def BdPost (B b : Nat) (g : Option Nat) (bs : List Value) (v : Value) (w : World) (e : Ending) (w' : World) : Prop := e = .returned v ∧ ∃ g', Bd w' B b g' bs ∧ Bx b g g' w w'
theorem bd_put {w1 wa w2 : World} {B b n : Nat} {g : Option Nat} {v v' : Value} {bs bs' : List Value} (hB : B ≤ b) (hbk : w1.heap[b]? = some (.cells #[.pointer (some ⟨b, 0, none⟩), v] 66 (0, 0))) (hv : v.ownBlock = g) (hne : g ≠ some b)
    (_hown1 : w1.ownsRow B 5 1 v bs.length bs) (ha : Below w1.heap.size w1 wa) (hown : w2.ownsRow B 5 1 v' n bs') (hn : n = bs'.length) (hg : wa.grownBy w2 v.ownBlock) (hw : v'.ownBlock = v.ownBlock ∨ v'.ownBlock = some wa.heap.size) :
    w2.heap[b]? = some (.cells #[.pointer (some ⟨b, 0, none⟩), v] 66 (0, 0)) ∧ Bd (w2.setCell ⟨b, 1, none⟩ v') B b v'.ownBlock bs' ∧ Bx b g v'.ownBlock w1 (w2.setCell ⟨b, 1, none⟩ v') := by
  have hlt := lt_of_block hbk
  have sa := ha.size
  have h2 := block_grown (block_below hbk ha hlt) hg (fun e => hne (hv ▸ e))
  have hnb : v'.ownBlock ≠ some b := by
    rcases hw with e | e
    · rw [e, hv]; exact hne
    · rw [e]; intro e2; have := Option.some.inj e2; omega
  refine ⟨h2, ⟨hB, _, v', Or.inr rfl, pair_setCell1 h2, ?_, rfl, hnb⟩, ⟨hg.os.trans ha.os, hg.tape.trans ha.tape, hg.output.trans ha.output, by have := hg.size; simp; omega, fun k hk hkb hkg => ?_, ?_⟩⟩
  · subst hn
    refine ⟨hown.1, hown.2.elim Or.inl ?_⟩
    rintro ⟨q, cap, cur, hv2, hbq, hq, r⟩
    refine Or.inr ⟨q, cap, cur, hv2, hbq, ?_, r⟩
    rw [Below.heap_setCell _ _ _ _ (fun e => hnb (by rw [hv2]; simpa [Value.ownBlock] using e))]; exact hq
  · rw [Below.heap_setCell _ _ _ _ hkb, hg.block k (by omega) (fun e => hkg (by rw [← hv]; exact e.symm))]
    exact ha.block k hk
  · rcases hw with e | e
    · exact Or.inl (e.trans hv)
    · exact Or.inr ⟨_, e, sa⟩

set_option maxRecDepth 100000 in
set_option maxHeartbeats 2000000 in
theorem writeByte_any (B b : Nat) (g : Option Nat) (bs : List Value) (c : Int) (w : World) (h : Bd w B b g bs) (hlen : bs.length ≤ 1000000) (hBw : B ≤ w.heap.size) :
    Calls Tryd.prog 40 #[.pointer (some ⟨b, 0, none⟩), .int .u8 c] w (BdPost B b g (bs ++ [.int .u8 c]) .nilIface w) := by
  obtain ⟨i0, hi, hz0, hz1, hz2⟩ := info_parts Tryd.infoByt
  have HH := hid h
  go_enter Tryd.func40, Tryd.ntmps40
  go_wp2_with (go_at_call 51; refine (copyCheck_any B b g bs _ h).mono ?_)
  rintro e w1 ⟨rfl, v, hbk, hown, hv, hx1⟩
  have c1 : w1.cell? ⟨b, 1, none⟩ = some v := by rw [Lib.cell_of_heap hbk]; rfl
  have HBK := hid hbk
  have HV := hid hv
  have HX1 := hid hx1
  have s1 := hx1.size
  clear hx1 hv hbk
  obtain ⟨hB, _, _, _, _, _, _, hne⟩ := HH.out
  go_wp2_with (at_builtin; refine wpList_append_at _ rfl _ _ 64 rfl B 5 i0 (.int .u8 0) 1 1 Tryd.underlying64 hi hz0 hz1 hz2 rfl (by decide) _ _ _ rfl (hown.alloc _) ⟨w1.heap.size, 0, none⟩ 1 1 [.int .u8 c] rfl rfl (cells_new1 _ _ _ _ rfl) (by intro u hu; simp at hu; subst hu; rfl) (by decide) (by unfold maxLen; omega) (by omega) (by simp; omega) ?_; intro v' w2 hown' hgrow hw2 hv2; obtain ⟨g2, kc, rfl⟩ := hv2; have hcl := bd_put hB HBK.out HV.out hne hown ((Below.refl w1.heap.size w1).alloc (Nat.le_refl _) _) hown' (by simp) hgrow hw2; have cc := cells_of_pair hcl.1; have d1 := cc.2.1; have f1 := cc.2.2.2; have HCL := hid hcl.2; clear hcl cc hown' hgrow hw2)
  go_ret
  exact ⟨rfl, _, HCL.out.1, HX1.out.trans HCL.out.2⟩

set_option maxRecDepth 100000 in
set_option maxHeartbeats 2000000 in
theorem writeString_any (B b : Nat) (g : Option Nat) (bs : List Value) (s : ByteArray) (w : World) (h : Bd w B b g bs) (hlen : bs.length ≤ 1000000) (hs : s.size ≤ 1000000) (hBw : B ≤ w.heap.size) :
    Calls Tryd.prog 38 #[.pointer (some ⟨b, 0, none⟩), .string s] w (BdPost B b g (bs ++ Lib.strCells s) (.tuple #[.int .i64 s.size, .nilIface]) w) := by
  obtain ⟨i0, hi, hz0, hz1, hz2⟩ := info_parts Tryd.infoByt
  have HH := hid h
  go_enter Tryd.func38, Tryd.ntmps38
  go_wp2_with (go_at_call 51; refine (copyCheck_any B b g bs _ h).mono ?_)
  rintro e w1 ⟨rfl, v, hbk, hown, hv, hx1⟩
  have c1 : w1.cell? ⟨b, 1, none⟩ = some v := by rw [Lib.cell_of_heap hbk]; rfl
  have HBK := hid hbk
  have HV := hid hv
  have HX1 := hid hx1
  have s1 := hx1.size
  clear hx1 hv hbk
  go_wp2_with (at_builtin; refine wpList_append_str _ rfl _ _ 64 9 rfl B 5 i0 Tryd.underlying64 Tryd.underlying9 hi hz0 hz1 hz2 _ _ _ rfl hown s rfl (by unfold maxLen; omega) (by omega) (by omega) ?_)
  intro v' w2 hown' hgrow hw2
  obtain ⟨ao, n', cap, rfl⟩ : ∃ ao n' cap, v' = .slice ao n' cap := by
    rcases hown'.2 with ⟨hv, _⟩ | ⟨g, cap, cur, hv, _⟩
    · exact ⟨_, _, _, hv⟩
    · exact ⟨_, _, _, hv⟩
  obtain ⟨hB, _, _, _, _, _, _, hne⟩ := HH.out
  have hcl := bd_put hB HBK.out HV.out hne hown (Below.refl w1.heap.size w1) hown' (by rw [List.length_append, Lib.strCells_length]) hgrow hw2
  have cc := cells_of_pair hcl.1
  have d1 := cc.2.1
  have f1 := cc.2.2.2
  have HCL := hid hcl.2
  clear hcl cc hown' hgrow hw2
  go_wp2
  go_ret2
  exact ⟨rfl, _, HCL.out.1, HX1.out.trans HCL.out.2⟩
end Go.Proofs.YtfogjomebcponaaDoor
