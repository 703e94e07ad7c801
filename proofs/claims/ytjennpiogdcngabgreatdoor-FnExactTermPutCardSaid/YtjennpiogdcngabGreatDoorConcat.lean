/- Lists of texts as slices; append of one list to another; the library's Grow and Concat at lists of texts. -/
import Derived.Test.YtjennpiogdcngabGreatDoorNames
import Derived.Lib.AppendZeros
import Derived.Laws.OwnMore
namespace Go.Proofs.YtjennpiogdcngabGreatDoor
open Go.RowKit

/-- A slice of texts reads as a list. -/
def SV (w : World) (p : Option Addr) (n c : Nat) (l : List ByteArray) : Prop :=
  l.length = n ∧ (p = none → n = 0 ∧ c = 0) ∧ ∀ i s, l[i]? = some s → ∃ g, p = some ⟨g, 0, none⟩ ∧ w.cell? ⟨g, i, none⟩ = some (.string s)
theorem SV.nil (w : World) : SV w none 0 0 [] := ⟨rfl, fun _ => ⟨rfl, rfl⟩, fun i s h => by simp at h⟩
theorem SV.kept {w w' : World} {p : Option Addr} {n c : Nat} {l : List ByteArray} (h : SV w p n c l) (hk : Kept w w') : SV w' p n c l :=
  ⟨h.1, h.2.1, fun i s hs => let ⟨g, hp, hc⟩ := h.2.2 i s hs; ⟨g, hp, hk.cell hc⟩⟩
/-- The same where only newer blocks have turned. -/
theorem SV.under {w w' : World} {p : Option Addr} {n c B : Nat} {l : List ByteArray} (h : SV w p n c l) (hb : Below B w w') (hB : ∀ g o, p = some ⟨g, o, none⟩ → g < B) : SV w' p n c l :=
  ⟨h.1, h.2.1, fun i s hs => let ⟨g, hp, hc⟩ := h.2.2 i s hs; ⟨g, hp, (hb.cell (p := ⟨g, i, none⟩) (hB g 0 hp)).trans hc⟩⟩
theorem sv_own {w : World} {base n c : Nat} {e : TypeId} {p : Option Addr} {l : List ByteArray} (h : w.ownsRow base e 1 (.slice p n c) n (l.map Value.string)) : SV w p n c l := by
  have hl : l.length = n := by have := h.1; simpa using this
  refine ⟨hl, ?_, ?_⟩
  · intro hp
    rcases h.2 with ⟨hv, hn⟩ | ⟨g, cap, cur, hv, _⟩
    · simp at hv; exact ⟨hn, hv.2.2⟩
    · simp [hp] at hv
  · intro i s hs
    rcases h.2 with ⟨hv, hn⟩ | ⟨g, cap, cur, hv, _⟩
    · have : l = [] := List.eq_nil_of_length_eq_zero (by omega)
      subst this; simp at hs
    · obtain ⟨rfl, rfl⟩ : p = some ⟨g, 0, none⟩ ∧ c = cap := by simpa using hv
      have hc := h.cells (g := g) rfl i (.string s) (by simp [hs])
      have hadd : (⟨g, 0, none⟩ : Addr).add i = ⟨g, i, none⟩ := by unfold Addr.add; split <;> simp_all
      rw [hadd] at hc
      exact ⟨g, rfl, hc⟩
theorem own_lt {w : World} {base n c size : Nat} {e : TypeId} {p : Option Addr} {xs : List Value} (h : w.ownsRow base e size (.slice p n c) n xs) : ∀ g o, p = some ⟨g, o, none⟩ → base ≤ g ∧ g < w.heap.size := by
  intro g o hp
  subst hp
  exact h.lt g rfl

/-- The law on append of a list of texts to a list of the call's own. -/
theorem wpList_append_sv {P : Program} (w : World) {ops : Array Oper} {rest : List Oper} {o : Oper} {a : Act} {Q : Exit → Act → World → Prop} (hgd : o.guard = none) (s x : Operand) (t : TypeId)
    (ho : o.op = .call { callee := .builtin .append, args := #[s, x], argTypes := #[t, t] })
    (base : Nat) (e : TypeId) (i : TypeInfo) (z : Value) (bytes : Nat) (ht : P.underlying t = some (.slice e)) (hi : P.info? e = some i) (hz : i.zero = some z)
    (hsize : i.size = 1) (hby : i.bytes = bytes) (hzs : z.cells.size = 1)
    (q : Option Addr) (k kc : Nat) (xs : List Value) (hs : a.eval s = .slice q k kc) (hown : w.ownsRow base e 1 (.slice q k kc) k xs)
    (p : Option Addr) (n c : Nat) (l : List ByteArray) (hx : a.eval x = .slice p n c) (hsv : SV w p n c l)
    (h63 : k + n ≤ maxLen) (hbytes : (k + n) * bytes ≤ 140737488355328) (hbase : base ≤ w.heap.size)
    (h : ∀ q' kc' w', w'.ownsRow base e 1 (.slice q' (k + n) kc') (k + n) (xs ++ l.map Value.string) → w.grownBy w' (Value.slice q k kc).ownBlock → wpList P ops Q rest (a.put o.dst (.slice q' (k + n) kc')) w') :
    wpList P ops Q (o :: rest) a w := by
  obtain ⟨hl, hnone, hc⟩ := hsv
  cases p with
  | none =>
    obtain ⟨rfl, rfl⟩ := hnone rfl
    have hl0 : l = [] := List.eq_nil_of_length_eq_zero hl
    subst hl0
    have hr := run_append_owned_none (P := P) w base t o.type e i 1 ht hi (.slice q k kc) k xs hown
    refine Go.Lib.wpList_append_run w hgd s x t t ho _ _ hs hx _ _ hr ?_
    exact h q kc w (by simpa using hown) (World.grownBy.refl _ _)
  | some ad =>
    have hnews : ∀ j u, (l.map Value.string)[j]? = some u → w.cell? (ad.add j) = some u := by
      intro j u hu
      obtain ⟨y, hy, rfl⟩ : ∃ y, l[j]? = some y ∧ Value.string y = u := by simpa using hu
      obtain ⟨g, hp, hcell⟩ := hc j y hy
      obtain rfl := Option.some.inj hp
      have hadd : (⟨g, 0, none⟩ : Addr).add j = ⟨g, j, none⟩ := by unfold Addr.add; split <;> simp_all
      rw [hadd]; exact hcell
    obtain ⟨v', w', hr, h2, h3, _⟩ := run_append_own (P := P) w base t o.type e i z 1 bytes ht hi hz hsize hby hzs (by decide) (.slice q k kc) k xs hown ad n c (l.map Value.string) (by simp [hl]) hnews (by intro u hu; obtain ⟨y, _, rfl⟩ := List.mem_map.1 hu; rfl) h63 hbytes hbase
    have hv : ∃ q' kc', v' = .slice q' (k + n) kc' := by
      rcases h2.2 with ⟨hv, hn⟩ | ⟨g, cap, cur, hv, _⟩
      · exact ⟨none, 0, by rw [hv, hn]⟩
      · exact ⟨_, _, hv⟩
    obtain ⟨q', kc', rfl⟩ := hv
    refine Go.Lib.wpList_append_run w hgd s x t t ho _ _ hs hx _ _ hr ?_
    exact h q' kc' w' h2 h3

theorem zeroCells_size (z : Array Value) (n : Nat) (hz : z.size = 1) : (Builtin.zeroCells z n).size = n := by
  have := size_zeroCells z n
  rw [hz] at this; simpa using this

set_option maxRecDepth 100000 in
set_option maxHeartbeats 1000000 in
theorem growNil_any (n : Nat) (hn : n ≤ 1000000) (w : World) : Calls Tryz.prog 119 #[.slice none 0 0, .int .i64 (n : Int)] w fun e w' => ∃ q c, e = .returned (.slice q 0 c) ∧ w'.ownsRow w.heap.size 9 1 (.slice q 0 c) 0 [] ∧ Below w.heap.size w w' := by
  obtain ⟨i0, hi0, hz0, hz1, hz2⟩ := info_parts Tryz.infoStr
  by_cases h0 : n = 0
  · subst h0
    go_enter Tryz.func119, Tryz.ntmps119
    go_wp2_with fail
    go_ret
    exact ⟨none, 0, rfl, World.ownsRow_nil _ _ _ _, Below.refl _ _⟩
  · have hp : 0 < n := by omega
    have hr := fun ty W => Go.Lib.run_append_nil_zeros (P := Tryz.prog) W 26 3 ty 9 i0 (.string ByteArray.empty) .i64 .i64 Tryz.underlying26 Tryz.underlying3 hi0 hz0 n hp (by omega) (by omega) (by rw [hz2]; omega)
    have hge := grownCap_ge w n 0 9
    have hle := grownCap_le_maxLen w n 0 9 (by unfold maxLen; omega)
    unfold maxLen at hle
    go_enter Tryz.func119, Tryz.ntmps119
    go_wp2_with (at_builtin; refine Go.Lib.wpList_append_run w rfl _ _ _ _ rfl _ _ rfl rfl _ _ (hr _ _) ?_)
    go_ret
    refine ⟨some ⟨w.heap.size, 0, none⟩, _, rfl, ⟨rfl, Or.inr ⟨w.heap.size, _, _, rfl, Nat.le_refl _, heap_new _ _ _ (by simp), Nat.zero_le _, by unfold maxLen; exact hle, ?_, by simp⟩⟩, ?_⟩
    · rw [Array.size_append, zeroCells_size _ _ rfl, zeroCells_size _ _ rfl]; omega
    · exact ((Below.refl _ _).drew).alloc (by simp) _

set_option maxRecDepth 100000 in
set_option maxHeartbeats 2000000 in
/-- slices.Concat at two lists of texts. -/
theorem concat_two (g c : Nat) (p1 p2 : Option Addr) (n1 n2 c1 c2 : Nat) (l1 l2 : List ByteArray) (w : World) (h1 : SV w p1 n1 c1 l1) (h2 : SV w p2 n2 c2 l2) (hn1 : n1 ≤ 100000) (hn2 : n2 ≤ 100000)
    (hc0 : w.cell? ⟨g, 0, none⟩ = some (.slice p1 n1 c1)) (hc1 : w.cell? ⟨g, 1, none⟩ = some (.slice p2 n2 c2)) :
    Calls Tryz.prog 86 #[.slice (some ⟨g, 0, none⟩) 2 c] w fun e w' => ∃ q kc, e = .returned (.slice q (n1 + n2) kc) ∧ w'.ownsRow w.heap.size 9 1 (.slice q (n1 + n2) kc) (n1 + n2) ((l1 ++ l2).map Value.string) ∧ Below w.heap.size w w' := by
  have H1 := hid h1
  have H2 := hid h2
  have HC0 := hid hc0
  have HC1 := hid hc1
  have HG := hid (fun n (hn : n ≤ 1000000) W => growNil_any n hn W)
  obtain ⟨i0, hi0, hz0, hz1, hz2⟩ := info_parts Tryz.infoStr
  clear h1 h2
  go_enter Tryz.func86, Tryz.ntmps86
  go_wp2_with fail
  go_loop [3, 11] (fun v u => (u = .int .i64 0 ∧ v = .int .i64 0) ∨ (u = .int .i64 1 ∧ v = .int .i64 (n1 : Int)) ∨ (u = .int .i64 2 ∧ v = .int .i64 ((n1 : Int) + n2))) (fun _ u => (2 - intOf u).toNat)
  case atStart => exact Or.inl ⟨rfl, rfl⟩
  case round =>
    rcases hrel with ⟨rfl, rfl⟩ | ⟨rfl, rfl⟩ | ⟨rfl, rfl⟩
    · go_wp2_with fail
      go_round
      case rel => exact Or.inr (Or.inl ⟨rfl, by simp⟩)
      case measure => simp [intOf]
    · go_wp2_with fail
      go_round
      case rel => exact Or.inr (Or.inr ⟨rfl, rfl⟩)
      case measure => simp [intOf]
    · clear hc0 hc1
      have hcast : ((n1 : Int) + n2) = ((n1 + n2 : Nat) : Int) := by simp
      have HG3 := hid (fun W => by have := HG.out (n1 + n2) (by omega) W; rw [← hcast] at this; exact this)
      clear hcast
      go_wp2_with (go_at_call 119; refine (HG3.out _).mono ?_; rintro e w1 ⟨q, kc, rfl, hown1, hb1⟩; have HO1 := hid hown1; have HB1 := hid hb1; clear hown1 hb1)
      go_loopw [6, 27] (fun v u wr => ∃ (q : Option Addr) (k kc : Nat) (l : List ByteArray), v = .slice q k kc ∧ wr.ownsRow w.heap.size 9 1 (.slice q k kc) k (l.map Value.string) ∧ Below w.heap.size w wr ∧
        ((u = .int .i64 0 ∧ l = [] ∧ k = 0) ∨ (u = .int .i64 1 ∧ l = l1 ∧ k = n1) ∨ (u = .int .i64 2 ∧ l = l1 ++ l2 ∧ k = n1 + n2))) (fun _ u _ => (2 - intOf u).toNat)
      case atStart => exact ⟨q, 0, kc, [], rfl, HO1.out, HB1.out, Or.inl ⟨rfl, rfl, rfl⟩⟩
      case round =>
        obtain ⟨q, k, kc, l, rfl, hown, hbel, hcase⟩ := hrel
        have HO := hid hown
        have HB := hid hbel
        have hz := hbel.size
        have hk := Kept.of_below hbel (Nat.le_refl _)
        have s1 := H1.out.kept hk
        have s2 := H2.out.kept hk
        have e0 := hk.cell HC0.out
        have e1 := hk.cell HC1.out
        have S1 := hid s1
        have S2 := hid s2
        clear hown hbel hk s1 s2
        have hlt := hid (fun k hk => (HO.out.lt k hk).1)
        rcases hcase with ⟨rfl, rfl, rfl⟩ | ⟨rfl, rfl, rfl⟩ | ⟨rfl, rfl, rfl⟩
        · go_wp2_with (at_builtin; refine wpList_append_sv _ rfl _ _ 26 rfl w.heap.size 9 i0 (.string ByteArray.empty) 16 Tryz.underlying26 hi0 hz0 hz1 hz2 rfl _ _ _ _ rfl HO.out _ _ _ l1 rfl S1.out (by unfold maxLen; omega) (by omega) (by omega) ?_; intro q' kc' w2 hown2 hg2; have HO2 := hid hown2; have HG2 := hid hg2; clear hown2 hg2)
          rw [Nat.zero_add] at HO2
          go_roundw
          case rel => exact ⟨q', n1, kc', l1, rfl, by simpa using HO2.out, HB.out.grown HG2.out (by omega) (fun k e => hlt.out k e), Or.inr (Or.inl ⟨rfl, rfl, rfl⟩)⟩
          case measure => simp [intOf]
        · go_wp2_with (at_builtin; refine wpList_append_sv _ rfl _ _ 26 rfl w.heap.size 9 i0 (.string ByteArray.empty) 16 Tryz.underlying26 hi0 hz0 hz1 hz2 rfl _ _ _ _ rfl HO.out _ _ _ l2 rfl S2.out (by unfold maxLen; omega) (by omega) (by omega) ?_; intro q' kc' w2 hown2 hg2; have HO2 := hid hown2; have HG2 := hid hg2; clear hown2 hg2)
          go_roundw
          case rel => exact ⟨q', _, kc', l ++ l2, rfl, by rw [List.map_append]; exact HO2.out, HB.out.grown HG2.out (by omega) (fun k e => hlt.out k e), Or.inr (Or.inr ⟨rfl, rfl, rfl⟩)⟩
          case measure => simp [intOf]
        · go_wp2_with fail
          go_ret
          exact ⟨q, kc, rfl, HO.out, HB.out⟩
end Go.Proofs.YtjennpiogdcngabGreatDoor
