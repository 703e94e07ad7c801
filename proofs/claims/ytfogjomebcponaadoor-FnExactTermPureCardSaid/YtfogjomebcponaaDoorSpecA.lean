/- The model's walks over a tree that has been read: how many atoms, the first atom, the kind. -/
import Derived.Test.YtfogjomebcponaaDoorRead
import Derived.Deep.QuietTactic
import Derived.BigQuiet
namespace Go.Proofs.YtfogjomebcponaaDoor
open Go.RowKit

set_option maxRecDepth 100000 in
set_option maxHeartbeats 1000000 in
theorem l1Size_any {w0 : World} {S : Nat → Prop} {t : Tree} {h : Hd} (ht : TIn w0 S t h) : t.size ≤ 12000 → ∀ w, Kept w0 w → w0.heap.size ≤ w.heap.size →
    Calls Tryd.prog 20 #[.agg #[.string h.a, .slice h.p h.l h.c]] w fun e w' => e = .returned (.int .i64 (t.size : Int)) ∧ Below w.heap.size w w' := by
  induction ht with
  | atom s hne hm =>
    intro _ w _ _
    have he := isEmpty_not s hne
    go_enter Tryd.func20, Tryd.ntmps20
    go_wp2
    go_ret
    exact ⟨rfl, (Below.refl _ _).alloc (by simp) _⟩
  | node ps b cap A hp hl hc hS hA hB hps ih =>
    intro hsz w hk hw
    have HIH := hid ih
    have HA := hid hA
    have HB := hid hB
    have HK := hid hk
    have HPS := hid hps
    clear ih hA hB hk hps
    have hm : ps.length ≤ 9223372036854775807 := by unfold maxLen at hc; omega
    have HSZ := hid hsz
    go_enter Tryd.func20, Tryd.ntmps20
    go_wp2_with fail
    go_loopw [3, 4] (fun v u wr => ∃ i : Nat, i ≤ ps.length ∧ u = .int .i64 (i : Int) ∧ v = .int .i64 (Tree.sizes (ps.take i) : Int) ∧ Below (w.heap.size + 1) (w.alloc (.cells #[.string ByteArray.empty, .slice (some ⟨b, 0, none⟩) ps.length cap] 27)) wr) (fun _ u _ => ps.length - (intOf u).toNat)
    case atStart => exact ⟨0, Nat.zero_le _, rfl, rfl, Below.refl _ _⟩
    case round =>
      obtain ⟨i, hi, rfl, rfl, hbel⟩ := hrel
      have c1 := cells_of_pair (block_below (heap_new w (.cells #[.string ByteArray.empty, .slice (some ⟨b, 0, none⟩) ps.length cap] 27) w.heap.size rfl) hbel (by omega))
      by_cases hlt : i < ps.length
      · have kb : Kept w0 wr := (HK.out.below ((Below.refl _ _).alloc (by simp) _) hw).below hbel (by omega)
        have kw : w0.heap.size ≤ wr.heap.size := by have := hbel.size; simp at this; omega
        have ca := kb.cell (HA.out i hlt)
        have cb := kb.cell (HB.out i hlt)
        obtain ⟨p, hp⟩ : ∃ p, ps[i]? = some p := ⟨ps[i], List.getElem?_eq_getElem hlt⟩
        have HP := hid hp
        have h1 := sizes_take ps i
        have h2 := size_part ps i p hp
        have HC := hid (HIH.out i p hp (by have := HSZ.out; simp only [Tree.size] at this; omega) wr kb kw)
        have h3 : Tree.sizes ps ≤ 12000 := by have := HSZ.out; simpa only [Tree.size] using this
        clear hp kb kw hsz
        go_wp2_with (go_at_call 20; refine HC.out.mono ?_; rintro e w1 ⟨rfl, hb1⟩)
        have h5 := sizes_snoc ps i p HP.out
        go_roundw
        case rel => exact ⟨i + 1, by omega, by go_num, by rw [h5]; go_num, hbel.trans (hb1.mono (by have := hbel.size; simp at this; omega))⟩
        case measure => simp [intOf]; omega
      · have hii : i = ps.length := by omega
        have HI := hid hii
        clear hii
        go_wp2_with fail
        go_ret
        refine ⟨ret_int (by rw [HI.out, List.take_length, Tree.size]), ?_⟩
        exact ((Below.refl _ _).alloc (by simp) _).trans (hbel.mono (by omega))

/-- A slice of strings. -/
def Strs (w : World) (p : Option Addr) (l : List ByteArray) : Prop := ∀ i s, l[i]? = some s → ∃ b o, p = some ⟨b, o, none⟩ ∧ w.cell? ⟨b, o + i, none⟩ = some (.string s)

def l1IfP (a b : List ByteArray) (kind : ByteArray) : ByteArray := if a.map (·.toList) = b.map (·.toList) then kind else ByteArray.empty

theorem Strs.kept {w w' : World} {p : Option Addr} {l : List ByteArray} (h : Strs w p l) (hk : Kept w w') : Strs w' p l := fun i s hs =>
  let ⟨b, o, hp, hc⟩ := h i s hs
  ⟨b, o, hp, hk.cell hc⟩
theorem strs_new1 (w : World) (x : ByteArray) (t : TypeId) (n : Nat) (hn : n = w.heap.size) : Strs (w.alloc (.cells #[.string x] t)) (some ⟨n, 0, none⟩) [x] := by
  intro i s hs
  match i, hs with
  | 0, hs => simp at hs; subst hs; exact ⟨n, 0, rfl, cell_of_one (heap_new w _ n hn)⟩
theorem strs_new2 (w : World) (x y : ByteArray) (t : TypeId) (n : Nat) (hn : n = w.heap.size) : Strs (w.alloc (.cells #[.string x, .string y] t)) (some ⟨n, 0, none⟩) [x, y] := by
  intro i s hs
  have hc := cells_of_pair (heap_new w (.cells #[.string x, .string y] t) n hn)
  match i, hs with
  | 0, hs => simp at hs; subst hs; exact ⟨n, 0, rfl, hc.1⟩
  | 1, hs => simp at hs; subst hs; exact ⟨n, 0, rfl, hc.2.1⟩
theorem strs_own {w : World} {base : Nat} {e : TypeId} {g n cap : Nat} {l : List ByteArray} (h : w.ownsRow base e 1 (.slice (some ⟨g, 0, none⟩) n cap) n (l.map Value.string)) : Strs w (some ⟨g, 0, none⟩) l := by
  intro i s hs
  have hc := h.cells (g := g) rfl i (.string s) (by simp [hs])
  refine ⟨g, 0, rfl, ?_⟩
  have hadd : (⟨g, 0, none⟩ : Addr).add i = ⟨g, 0 + i, none⟩ := by unfold Addr.add; split <;> simp_all
  rw [← hadd]; exact hc

theorem empty_toList : ByteArray.empty.toList = [] := by rw [Go.ByteArray.toList_eq]; rfl
/-- The atom of a tree, or nothing. -/
def Tree.text : Tree → ByteArray
  | .atom s => s
  | .node _ => ByteArray.empty
/-- The first atom of what has parts. -/
def Tree.headAtom : Tree → ByteArray
  | .node (p :: _) => p.text
  | _ => ByteArray.empty
theorem TIn.text {w : World} {S : Nat → Prop} {t : Tree} {h : Hd} (ht : TIn w S t h) : h.a = t.text := by cases ht <;> rfl

set_option maxRecDepth 100000 in
set_option maxHeartbeats 1000000 in
theorem l1Head_any {w0 : World} {S : Nat → Prop} {t : Tree} {h : Hd} (ht : TIn w0 S t h) (w : World) (hk : Kept w0 w) :
    Calls Tryd.prog 32 #[.agg #[.string h.a, .slice h.p h.l h.c]] w fun e w' => e = .returned (.string t.headAtom) ∧ Below w.heap.size w w' := by
  cases ht with
  | atom s hne hm =>
    have he := isEmpty_not s hne
    clear hk
    go_enter Tryd.func32, Tryd.ntmps32
    go_wp2
    go_ret
    exact ⟨rfl, (Below.refl _ _).alloc (by simp) _⟩
  | node ps b cap A hp hl hc hS hA hB hps =>
    have c0 : w.cell? ⟨b, 0, none⟩ = some (.string (A 0).a) := by have := hk.cell (hA 0 hp); simpa using this
    have c2 : ∀ o, (w.alloc o).cell? ⟨b, 0, none⟩ = some (.string (A 0).a) := fun o => (World.cell?_of_block (w := w) (heap_alloc_old w o (World.block_lt_of_cell? w _ c0))).trans c0
    obtain ⟨q, qs, rfl⟩ : ∃ q qs, ps = q :: qs := by cases ps with | nil => simp at hp | cons q qs => exact ⟨q, qs, rfl⟩
    have ht := (hps 0 q rfl).text
    have HT := hid ht
    clear ht hA hB hps hk
    have hm : (q :: qs).length ≤ 9223372036854775807 := by unfold maxLen at hc; omega
    obtain ⟨n, hn⟩ : ∃ n, n = (q :: qs).length := ⟨_, rfl⟩
    rw [← hn] at hp hm ⊢
    have hz : (n : Int) ≠ 0 := by omega
    have hz2 : ((n : Int) == 0) = false := by simp; omega
    clear hn
    go_enter Tryd.func32, Tryd.ntmps32
    go_wp2
    go_ret
    exact ⟨ret_str HT.out, (Below.refl _ _).alloc (by simp) _⟩

def strV : ByteArray := ⟨#[118, 97, 108, 117, 101]⟩
def strC : ByteArray := ⟨#[99, 111, 109, 112, 117, 116, 97, 116, 105, 111, 110]⟩
/-- The kind of a type with parts. -/
def nodeKind (hd : ByteArray) (ks : List ByteArray) : ByteArray :=
  if hd.toList = [42] then l1IfP ks [strV, strV] strV
  else if hd.toList = [117] then l1IfP ks [strC] strV
  else if hd.toList = [102] then l1IfP ks [strV] strC
  else if hd.toList = [62] then l1IfP ks [strV, strC] strC
  else if hd.toList = [38] then l1IfP ks [strC, strC] strC
  else ByteArray.empty
mutual
/-- The kind of a type of any size, or nothing. -/
def Tree.kind : Tree → ByteArray
  | .atom s => if s.toList = [98] then strV else ByteArray.empty
  | .node ps => nodeKind (Tree.node ps).headAtom ((Tree.kinds ps).drop 1)
def Tree.kinds : List Tree → List ByteArray
  | [] => []
  | p :: ps => p.kind :: Tree.kinds ps
end
theorem kinds_map (ps : List Tree) : Tree.kinds ps = ps.map Tree.kind := by
  induction ps with
  | nil => rfl
  | cons p ps ih => simp [Tree.kinds, ih]

theorem Tryd.infoStr : (Tryd.prog.info? 9).map (fun i => (i.zero, i.size, i.bytes)) = some (some (.string ByteArray.empty), 1, 16) := by kernel_rfl

end Go.Proofs.YtfogjomebcponaaDoor
