/- Merged: SpecA, Text, SpecAI, SpecB. -/
import Derived.Deep.QuietTactic
import Derived.BigQuiet
import Derived.Test.YtfogjomebcponaaGreatDoorZGSRead
namespace Go.Proofs.YtfogjomebcponaaGreatDoor
open Go.RowKit
set_option maxRecDepth 100000
set_option maxHeartbeats 2000000
theorem l1Size_any {w0 : World} {S : Nat → Prop} {t : Tree} {h : Hd} (ht : TIn w0 S t h) : t.size ≤ 12000 → ∀ w, Kept w0 w → w0.heap.size ≤ w.heap.size →
    Calls Tryz.prog 56 #[.agg #[.string h.a, .slice h.p h.l h.c]] w fun e w' => e = .returned (.int .i64 (t.size : Int)) ∧ Below w.heap.size w w' := by
 induction ht with
 | atom s hne hm =>
  intro _ w _ _
  have he := ise s hne
  go_enter Tryz.func56, Tryz.ntmps56
  go_wp2
  go_ret
  exact ⟨rfl, (Below.refl _ _).alloc (by simp) _⟩
 | node ps b cap A hp hl hc hS hA hB hps ih =>
  intro hsz w hk hw
  have HIH := hid ih
  have HA := hid hA
  have HB := hid hB
  have HK := hid hk
  have HPS := hid hps
  clear ih hA hB hk hps
  have hm : ps.length ≤ 9223372036854775807 := by unfold maxLen at hc; omega
  have HSZ := hid hsz
  go_enter Tryz.func56, Tryz.ntmps56
  go_wp2_with fail
  go_loopw [3, 4] (fun v u wr => ∃ i : Nat, i ≤ ps.length ∧ u = .int .i64 (i : Int) ∧ v = .int .i64 (Tree.sizes (ps.take i) : Int) ∧ Below (w.heap.size + 1) (w.alloc (.cells #[.string ByteArray.empty, .slice (some ⟨b, 0, none⟩) ps.length cap] 43)) wr) (fun _ u _ => ps.length - (intOf u).toNat)
  case atStart => exact ⟨0, Nat.zero_le _, rfl, rfl, Below.refl _ _⟩
  case round =>
   obtain ⟨i, hi, rfl, rfl, hbel⟩ := hrel
   have c1 := cel (blo (hea w (.cells #[.string ByteArray.empty, .slice (some ⟨b, 0, none⟩) ps.length cap] 43) w.heap.size rfl) hbel (by omega))
   by_cases hlt : i < ps.length
   ·have kb : Kept w0 wr := (HK.out.below ((Below.refl _ _).alloc (by simp) _) hw).below hbel (by omega)
    have kw : w0.heap.size ≤ wr.heap.size := by have := hbel.size; simp at this; omega
    have ca := kb.cell (HA.out i hlt)
    have cb := kb.cell (HB.out i hlt)
    obtain ⟨p, hp⟩ : ∃ p, ps[i]? = some p := ⟨ps[i], List.getElem?_eq_getElem hlt⟩
    have HP := hid hp
    have h1 := sizes_take ps i
    have h2 := size_part ps i p hp
    have HC := hid (HIH.out i p hp (by have := HSZ.out; simp only [Tree.size] at this; omega) wr kb kw)
    have h3 : Tree.sizes ps ≤ 12000 := by have := HSZ.out; simpa only [Tree.size] using this
    clear hp kb kw hsz
    go_wp2_with (go_at_call 56; refine HC.out.mono ?_; rintro e w1 ⟨rfl, hb1⟩)
    have h5 := sizes_snoc ps i p HP.out
    go_roundw
    case rel => exact ⟨i + 1, by omega, by go_num, by rw [h5]; go_num, hbel.trans (hb1.mono (by have := hbel.size; simp at this; omega))⟩
    case measure => simp [intOf]; omega
   ·have hii : i = ps.length := by omega
    have HI := hid hii
    clear hii
    go_wp2_with fail
    go_ret
    refine ⟨ret_int (by rw [HI.out, List.take_length, Tree.size]), ?_⟩
    exact ((Below.refl _ _).alloc (by simp) _).trans (hbel.mono (by omega))
def Strs (w : World) (p : Option Addr) (l : List ByteArray) : Prop := ∀ i s, l[i]? = some s → ∃ b o, p = some ⟨b, o, none⟩ ∧ w.cell? ⟨b, o + i, none⟩ = some (.string s)
def l1IfP (a b : List ByteArray) (kind : ByteArray) : ByteArray := if a.map (·.toList) = b.map (·.toList) then kind else ByteArray.empty
theorem Strs.kept {w w' : World} {p : Option Addr} {l : List ByteArray} (h : Strs w p l) (hk : Kept w w') : Strs w' p l := fun i s hs =>
 let ⟨b, o, hp, hc⟩ := h i s hs
 ⟨b, o, hp, hk.cell hc⟩
theorem strs_new1 (w : World) (x : ByteArray) (t : TypeId) (n : Nat) (hn : n = w.heap.size) : Strs (w.alloc (.cells #[.string x] t)) (some ⟨n, 0, none⟩) [x] := by
 intro i s hs
 match i, hs with
 | 0, hs => simp at hs; subst hs; exact ⟨n, 0, rfl, cell_of_one (hea w _ n hn)⟩
theorem strs_new2 (w : World) (x y : ByteArray) (t : TypeId) (n : Nat) (hn : n = w.heap.size) : Strs (w.alloc (.cells #[.string x, .string y] t)) (some ⟨n, 0, none⟩) [x, y] := by
 intro i s hs
 have hc := cel (hea w (.cells #[.string x, .string y] t) n hn)
 match i, hs with
 | 0, hs => simp at hs; subst hs; exact ⟨n, 0, rfl, hc.1⟩
 | 1, hs => simp at hs; subst hs; exact ⟨n, 0, rfl, hc.2.1⟩
theorem strs_own {w : World} {base : Nat} {e : TypeId} {g n cap : Nat} {l : List ByteArray} (h : w.ownsRow base e 1 (.slice (some ⟨g, 0, none⟩) n cap) n (l.map Value.string)) : Strs w (some ⟨g, 0, none⟩) l := by
 intro i s hs
 have hc := h.cells (g := g) rfl i (.string s) (by simp [hs])
 refine ⟨g, 0, rfl, ?_⟩
 have hadd : (⟨g, 0, none⟩ : Addr).add i = ⟨g, 0 + i, none⟩ := by unfold Addr.add; split <;> simp_all
 rw [← hadd]; exact hc
theorem emp : ByteArray.empty.toList = [] := by rw [Go.ByteArray.toList_eq]; rfl
def Tree.text : Tree → ByteArray
 | .atom s => s
 | .node _ => ByteArray.empty
def Tree.headAtom : Tree → ByteArray
 | .node (p :: _) => p.text
 | _ => ByteArray.empty
theorem TIn.text {w : World} {S : Nat → Prop} {t : Tree} {h : Hd} (ht : TIn w S t h) : h.a = t.text := by cases ht <;> rfl
theorem l1Head_any {w0 : World} {S : Nat → Prop} {t : Tree} {h : Hd} (ht : TIn w0 S t h) (w : World) (hk : Kept w0 w) :
    Calls Tryz.prog 94 #[.agg #[.string h.a, .slice h.p h.l h.c]] w fun e w' => e = .returned (.string t.headAtom) ∧ Below w.heap.size w w' := by
 cases ht with
 | atom s hne hm =>
  have he := ise s hne
  clear hk
  go_enter Tryz.func94, Tryz.ntmps94
  go_wp2
  go_ret
  exact ⟨rfl, (Below.refl _ _).alloc (by simp) _⟩
 | node ps b cap A hp hl hc hS hA hB hps =>
  have c0 : w.cell? ⟨b, 0, none⟩ = some (.string (A 0).a) := by have := hk.cell (hA 0 hp); simpa using this
  have c2 : ∀ o, (w.alloc o).cell? ⟨b, 0, none⟩ = some (.string (A 0).a) := fun o => (World.cell?_of_block (w := w) (heap_alloc_old w o (World.block_lt_of_cell? w _ c0))).trans c0
  obtain ⟨q, qs, rfl⟩ : ∃ q qs, ps = q :: qs := by cases ps with | nil => simp at hp | cons q qs => exact ⟨q, qs, rfl⟩
  have ht := (hps 0 q rfl).text
  have HT := hid ht
  clear ht hA hB hps hk
  have hm : (q :: qs).length ≤ 9223372036854775807 := by unfold maxLen at hc; omega
  obtain ⟨n, hn⟩ : ∃ n, n = (q :: qs).length := ⟨_, rfl⟩
  rw [← hn] at hp hm ⊢
  have hz : (n : Int) ≠ 0 := by omega
  have hz2 : ((n : Int) == 0) = false := by simp; omega
  clear hn
  go_enter Tryz.func94, Tryz.ntmps94
  go_wp2
  go_ret
  exact ⟨rer HT.out, (Below.refl _ _).alloc (by simp) _⟩
def strV : ByteArray := ⟨#[118, 97, 108, 117, 101]⟩
def strC : ByteArray := ⟨#[99, 111, 109, 112, 117, 116, 97, 116, 105, 111, 110]⟩
def nod (hd : ByteArray) (ks : List ByteArray) : ByteArray :=
 if hd.toList = [42] then l1IfP ks [strV, strV] strV
 else if hd.toList = [117] then l1IfP ks [strC] strV
 else if hd.toList = [102] then l1IfP ks [strV] strC
 else if hd.toList = [62] then l1IfP ks [strV, strC] strC
 else if hd.toList = [38] then l1IfP ks [strC, strC] strC
 else ByteArray.empty
mutual
def Tree.kind : Tree → ByteArray
 | .atom s => if s.toList = [98] then strV else ByteArray.empty
 | .node ps => nod (Tree.node ps).headAtom ((Tree.kinds ps).drop 1)
def Tree.kinds : List Tree → List ByteArray
 | [] => []
 | p :: ps => p.kind :: Tree.kinds ps
end
theorem kinds_map (ps : List Tree) : Tree.kinds ps = ps.map Tree.kind := by
 induction ps with
 | nil => rfl
 | cons p ps ih => simp [Tree.kinds, ih]
theorem Tryz.infoStr : (Tryz.prog.info? 9).map (fun i => (i.zero, i.size, i.bytes)) = some (some (.string ByteArray.empty), 1, 16) := by kernel_rfl
theorem l1Text_big {w0 : World} {S : Nat → Prop} {t : Tree} {h : Hd} (ht : TIn w0 S t h) : t.write.length ≤ 400000000 → t.wt ≤ 400000000 → ∀ w, Kept w0 w → w0.heap.size ≤ w.heap.size →
    Calls Tryz.prog 71 #[.agg #[.string h.a, .slice h.p h.l h.c]] w fun e w' => e = .returned (.string t.txt) ∧ Below w.heap.size w w' := by
 induction ht with
 | atom s hne hm =>
  intro _ _ w _ _
  have he := ise s hne
  have hx : s = (Tree.atom s).txt := by rw [Tree.txt, Tree.write]
  have HX := hid hx
  clear hx
  go_enter Tryz.func71, Tryz.ntmps71
  go_wp2
  go_ret
  exact ⟨rer HX.out, (Below.refl _ _).alloc (by simp) _⟩
 | node ps b cap A hp hl hc hS hA hB hps ih =>
  intro hwl hwt w hk hw
  have hlen := wtl ps
  rw [Tree.wt] at hwt
  rw [wre] at hwl
  obtain ⟨n, hn⟩ : ∃ n, n = ps.length := ⟨_, rfl⟩
  rw [← hn] at hp hl hA hB hlen ⊢
  have hjl : (Tree.join ps).length ≤ 400000000 := by simp at hwl; omega
  have HN := hid hn
  have HIH := hid ih
  have HA := hid hA
  have HB := hid hB
  have HK := hid hk
  have HWT := hid hwt
  have HJL := hid hjl
  clear hn ih hA hB hk hps hwt hjl hwl
  have hn2 : n ≤ 400000000 := by have := HWT.out; omega
  go_enter Tryz.func71, Tryz.ntmps71
  go_wp2_with fail
  go_loopw [3, 4] (fun v u wr => ∃ (j : Nat) (o : ByteArray), j ≤ n ∧ u = .int .i64 (j : Int) ∧ v = .string o ∧ o.size ≤ 400000001 ∧ Hid (o.toList = 40 :: Tree.join (ps.take j)) ∧ Below (w.heap.size + 1) (w.alloc (.cells #[.string ByteArray.empty, .slice (some ⟨b, 0, none⟩) n cap] 43)) wr) (fun _ u _ => n - (intOf u).toNat)
  case atStart => exact ⟨0, _, Nat.zero_le _, rfl, rfl, by decide, hid (by rw [Go.ByteArray.toList_eq]; rfl), Below.refl _ _⟩
  case round =>
   obtain ⟨j, o, hj, rfl, rfl, ho, hol, hbel⟩ := hrel
   have hz := hbel.size
   simp at hz
   have kb : Kept w wr := ((Kept.refl w).alloc (Nat.le_refl _) _).below hbel (by omega)
   have e1 := cel (blo (hea w (.cells #[.string ByteArray.empty, .slice (some ⟨b, 0, none⟩) n cap] 43) w.heap.size rfl) hbel (by omega))
   have HBW : Hid (Below w.heap.size w wr) := ((Below.refl _ _).alloc (by simp) _).trans (hbel.mono (by omega))
   by_cases hlt : j < n
   ·have kw : Kept w0 wr := HK.out.trans kb hw
    have ca := kw.cell (HA.out j hlt)
    have cb := kw.cell (HB.out j hlt)
    obtain ⟨p, hp⟩ : ∃ p, ps[j]? = some p := ⟨_, List.getElem?_eq_getElem (by rw [← HN.out]; exact hlt)⟩
    have hpl := join_part ps j p hp
    have hps1 : p.txt.size ≤ 400000000 := by rw [txt_size]; have := HJL.out; omega
    have HC := hid (HIH.out j p hp (by have := HJL.out; omega) (by have := wtp ps j p hp; have := HWT.out; omega) wr kw (by omega))
    have hjt := join_take ps (j + 1)
    by_cases hj0 : j = 0
    ·subst hj0
     have hnx : (o ++ p.txt).toList = 40 :: Tree.join (ps.take (0 + 1)) := by rw [app, hol.out, txt_toList, join_first ps p hp]; simp [Tree.join]
     have hns : (o ++ p.txt).size ≤ 400000001 := by
      rw [size_toList, hnx]
      have := HJL.out
      simp only [List.length_cons]; omega
     have HNX := hid hnx
     have HNS := hid hns
     clear hnx hns hp kw kb hpl hjt
     go_wp2_with (go_at_call 71; refine HC.out.mono ?_; rintro e w1 ⟨rfl, hb1⟩)
     go_roundw
     case rel => exact ⟨0 + 1, o ++ p.txt, by omega, by go_num, rfl, HNS.out, HNX, hbel.trans (hb1.mono (by omega))⟩
     case measure => simp [intOf]; omega
    ·have hnx : ((o ++ ({ data := #[32] } : ByteArray)) ++ p.txt).toList = 40 :: Tree.join (ps.take (j + 1)) := by rw [app, app, hol.out, txt_toList, space_toList, join_snoc ps j p hp (by omega)]; simp
     have hns : ((o ++ ({ data := #[32] } : ByteArray)) ++ p.txt).size ≤ 400000001 := by
      rw [size_toList, hnx]
      have := HJL.out
      simp only [List.length_cons]; omega
     have HNX := hid hnx
     have HNS := hid hns
     have hj1 : 0 < j := by omega
     clear hnx hns hp kw kb hpl hjt hj0
     go_wp2_with (go_at_call 71; refine HC.out.mono ?_; rintro e w1 ⟨rfl, hb1⟩)
     go_roundw
     case rel => exact ⟨j + 1, _, by omega, by go_num, rfl, HNS.out, HNX, hbel.trans (hb1.mono (by omega))⟩
     case measure => simp [intOf]; omega
   ·have hjn : j = n := by omega
    have HJN := hid hjn
    clear hjn kb
    go_wp2_with fail
    go_ret
    refine ⟨rer ?_, HBW.out⟩
    have := hol.out
    rw [HJN.out, HN.out, List.take_length] at this
    rw [byt (show (o ++ ({ data := #[41] } : ByteArray)).toList = 40 :: (Tree.join ps ++ [41]) by rw [app, this, show ({ data := #[41] } : ByteArray).toList = [41] by rw [Go.ByteArray.toList_eq]]; simp), Tree.txt, wre]
theorem l1Text_any {w0 : World} {S : Nat → Prop} {t : Tree} {h : Hd} (ht : TIn w0 S t h) (h1 : t.write.length ≤ 12000) (h2 : t.wt ≤ 12000) (w : World) (hk : Kept w0 w) (hw : w0.heap.size ≤ w.heap.size) :
    Calls Tryz.prog 71 #[.agg #[.string h.a, .slice h.p h.l h.c]] w fun e w' => e = .returned (.string t.txt) ∧ Below w.heap.size w w' := l1Text_big ht (by omega) (by omega) w hk hw
theorem l1If_eq (w : World) (a b : List ByteArray) (kind : ByteArray) (p q : Option Addr) (ca cb : Nat) (ha : Strs w p a) (hb : Strs w q b) (n : Nat) (hla : Hid (a.length = n)) (hlb : Hid (b.length = n)) (hn : n ≤ 100000) :
    Calls Tryz.prog 132 #[.slice p n ca, .slice q n cb, .string kind] w fun e w' => e = .returned (.string (l1IfP a b kind)) ∧ Below w.heap.size w w' := by
 have d0 : ((n : Int) != (n : Int)) = false := by simp
 go_enter Tryz.func132, Tryz.ntmps132
 go_wp2_with fail
 go_loopw [7] (fun v wr => ∃ i : Nat, i ≤ n ∧ v = .int .i64 (i : Int) ∧ Hid ((a.take i).map (·.toList) = (b.take i).map (·.toList)) ∧ Below w.heap.size w wr) (fun v _ => n - (intOf v).toNat)
 case atStart => exact ⟨0, Nat.zero_le _, rfl, rfl, Below.refl _ _⟩
 case round =>
  obtain ⟨i, hi, rfl, htk, hbel⟩ := hrel
  by_cases hlt : i < n
  ·obtain ⟨x, hx⟩ : ∃ x, a[i]? = some x := ⟨_, List.getElem?_eq_getElem (by rw [hla.out]; exact hlt)⟩
   obtain ⟨y, hy⟩ : ∃ y, b[i]? = some y := ⟨_, List.getElem?_eq_getElem (by rw [hlb.out]; exact hlt)⟩
   obtain ⟨b0, o0, rfl, hc0⟩ := ha i x hx
   obtain ⟨b1, o1, rfl, hc1⟩ := hb i y hy
   have k0 := (hbel.cell (p := ⟨b0, o0 + i, none⟩) (World.block_lt_of_cell? w _ hc0)).trans hc0
   have k1 := (hbel.cell (p := ⟨b1, o1 + i, none⟩) (World.block_lt_of_cell? w _ hc1)).trans hc1
   have HX := hid hx
   have HY := hid hy
   clear hx hy ha hb hc0 hc1
   have j0 : (0 : Int) ≤ (i : Int) := by omega
   have j1 : (i : Int) < (n : Int) := by omega
   go_wp2_with fail
   go_quiet (fail)
   go_wp2_with fail
   ·have hne : (!x.toList == y.toList) = true := by assumption
    go_ret
    refine ⟨rer ?_, below_drewN hbel _⟩
    rw [l1IfP, if_neg ?_]
    ·rfl
    ·intro e
     have e1 := congrArg (fun l => l[i]?) e
     simp only [List.getElem?_map, HX.out, HY.out, Option.map_some, Option.some.injEq] at e1
     simp [e1] at hne
   ·have hne : (!x.toList == y.toList) = false := by assumption
    have he : x.toList = y.toList := by simpa using hne
    go_roundw
    case rel =>
     refine ⟨i + 1, by omega, by go_num, ?_, below_drewN hbel _⟩
     have := htk.out
     show _ = _
     rw [List.take_add_one, List.take_add_one, HX.out, HY.out, List.map_append, List.map_append, this]; simp [he]
    case measure => simp [intOf]; omega
  ·have hin : i = n := by omega
   have HI := hid hin
   clear hin ha hb
   go_wp2_with fail
   go_ret
   refine ⟨rer ?_, hbel⟩
   have := htk.out
   rw [HI.out, List.take_of_length_le (Nat.le_of_eq hla.out), List.take_of_length_le (Nat.le_of_eq hlb.out)] at this
   rw [l1IfP, if_pos this]
theorem l1If_any (w : World) (a b : List ByteArray) (kind : ByteArray) (p q : Option Addr) (ca cb : Nat) (ha : Strs w p a) (hb : Strs w q b) (hlb : b.length ≤ 100000) :
    Calls Tryz.prog 132 #[.slice p a.length ca, .slice q b.length cb, .string kind] w fun e w' => e = .returned (.string (l1IfP a b kind)) ∧ Below w.heap.size w w' := by
 by_cases hab : a.length = b.length
 ·have := l1If_eq w a b kind p q ca cb ha hb b.length hab rfl hlb
  rw [← hab] at this ⊢; exact this
 ·have hne : l1IfP a b kind = ByteArray.empty := by
    rw [l1IfP, if_neg]; intro e; exact hab (by simpa using congrArg List.length e)
  rw [hne]
  have d0 : ((a.length : Int) != (b.length : Int)) = true := by simp; omega
  clear hne ha hb
  go_enter Tryz.func132, Tryz.ntmps132
  go_wp2_with fail
  go_ret
  exact ⟨rfl, Below.refl _ _⟩
theorem l1If_n (w : World) (a b : List ByteArray) (kind : ByteArray) (p q : Option Addr) (na nb ca cb : Nat) (ha : Strs w p a) (hb : Strs w q b) (hna : a.length = na) (hnb : b.length = nb) (hlb : nb ≤ 100000) :
    Calls Tryz.prog 132 #[.slice p na ca, .slice q nb cb, .string kind] w fun e w' => e = .returned (.string (l1IfP a b kind)) ∧ Below w.heap.size w w' := by
 subst hna; subst hnb; exact l1If_any w a b kind p q ca cb ha hb hlb
theorem nodeKind_empty (ks : List ByteArray) : nod ByteArray.empty ks = ByteArray.empty := by simp [nod]
theorem nodeKind_0 {hd : ByteArray} {ks : List ByteArray}  (e0 : (hd.toList == [42]) = true) : nod hd ks = l1IfP ks [strV, strV] strV := by
 rw [nod, if_pos (by simpa using e0)]
theorem nodeKind_1 {hd : ByteArray} {ks : List ByteArray} (e0 : (hd.toList == [42]) = false) (e1 : (hd.toList == [117]) = true) : nod hd ks = l1IfP ks [strC] strV := by
 rw [nod, if_neg (by simpa using e0), if_pos (by simpa using e1)]
theorem nodeKind_2 {hd : ByteArray} {ks : List ByteArray} (e0 : (hd.toList == [42]) = false) (e1 : (hd.toList == [117]) = false) (e2 : (hd.toList == [102]) = true) : nod hd ks = l1IfP ks [strV] strC := by
 rw [nod, if_neg (by simpa using e0), if_neg (by simpa using e1), if_pos (by simpa using e2)]
theorem nodeKind_3 {hd : ByteArray} {ks : List ByteArray} (e0 : (hd.toList == [42]) = false) (e1 : (hd.toList == [117]) = false) (e2 : (hd.toList == [102]) = false) (e3 : (hd.toList == [62]) = true) : nod hd ks = l1IfP ks [strV, strC] strC := by
 rw [nod, if_neg (by simpa using e0), if_neg (by simpa using e1), if_neg (by simpa using e2), if_pos (by simpa using e3)]
theorem nodeKind_4 {hd : ByteArray} {ks : List ByteArray} (e0 : (hd.toList == [42]) = false) (e1 : (hd.toList == [117]) = false) (e2 : (hd.toList == [102]) = false) (e3 : (hd.toList == [62]) = false) (e4 : (hd.toList == [38]) = true) : nod hd ks = l1IfP ks [strC, strC] strC := by
 rw [nod, if_neg (by simpa using e0), if_neg (by simpa using e1), if_neg (by simpa using e2), if_neg (by simpa using e3), if_pos (by simpa using e4)]
theorem nodeKind_5 {hd : ByteArray} {ks : List ByteArray} (e0 : (hd.toList == [42]) = false) (e1 : (hd.toList == [117]) = false) (e2 : (hd.toList == [102]) = false) (e3 : (hd.toList == [62]) = false) (e4 : (hd.toList == [38]) = false) : nod hd ks = ByteArray.empty := by
 rw [nod, if_neg (by simpa using e0), if_neg (by simpa using e1), if_neg (by simpa using e2), if_neg (by simpa using e3), if_neg (by simpa using e4)]
theorem kinds_snoc (ps : List Tree) (j : Nat) (p : Tree) (h : ps[j + 1]? = some p) : ((ps.map Tree.kind).drop 1).take (j + 1) = ((ps.map Tree.kind).drop 1).take j ++ [p.kind] := by
 rw [List.take_add_one]; simp [h]
theorem l1Kind_go (ps : List Tree) (a : ByteArray) (b cap : Nat) (pp : Option Addr) (l : Nat) (A : Nat → Hd) (hd : ByteArray) (w : World) (ha : a.toList ≠ [98]) (hl : ps.length = l) (hm : l ≤ 20000) (hpp : 1 < l → pp = some ⟨b, 0, none⟩)
    (hA : ∀ i, i < l → w.cell? ⟨b, i * 2, none⟩ = some (.string (A i).a)) (hB : ∀ i, i < l → w.cell? ⟨b, i * 2 + 1, none⟩ = some (.slice (A i).p (A i).l (A i).c))
    (ih : ∀ i p, ps[i]? = some p → ∀ w', Kept w w' → w.heap.size ≤ w'.heap.size → Calls Tryz.prog 99 #[.agg #[.string (A i).a, .slice (A i).p (A i).l (A i).c]] w' fun e w'' => e = .returned (.string p.kind) ∧ Below w'.heap.size w' w'')
    (hh : ∀ w', Kept w w' → Calls Tryz.prog 94 #[.agg #[.string a, .slice pp l cap]] w' fun e w'' => e = .returned (.string hd) ∧ Below w'.heap.size w' w'') :
    Calls Tryz.prog 99 #[.agg #[.string a, .slice pp l cap]] w fun e w' => e = .returned (.string (nod hd ((ps.map Tree.kind).drop 1))) ∧ Below w.heap.size w w' := by
 have h1 : (a.toList == [98]) = false := by simpa using ha
 have HA := hid hA
 have HB := hid hB
 have HIH := hid ih
 have HH := hid hh
 have HL := hid hl
 have HPP := hid hpp
 clear ha hA hB ih hh hl hpp
 go_enter Tryz.func99, Tryz.ntmps99
 go_wp2_with fail
 go_loopw [3, 4] (fun v u wr => ∃ j g cp : Nat, u = .int .i64 ((j : Int) + 1) ∧ v = .slice (some ⟨g, 0, none⟩) j cp ∧ (j = 0 ∨ j + 1 ≤ l) ∧
     wr.ownsRow (w.heap.size + 1) 9 1 (.slice (some ⟨g, 0, none⟩) j cp) j ((((ps.map Tree.kind).drop 1).take j).map Value.string) ∧
     Below (w.heap.size + 1) (w.alloc (.cells #[.string a, .slice pp l cap] 43)) wr) (fun _ u _ => l - (intOf u).toNat)
 case atStart =>
  refine ⟨0, w.heap.size + 1, 0, rfl, rfl, Or.inl rfl, ?_, (Below.refl _ _).alloc (by simp) _⟩
  have := World.ownsRow_made (w := w.alloc (.cells #[.string a, .slice pp l cap] 43)) (base := w.heap.size + 1) (e := 9) (size := 1) #[] 0 (by simp) (by simp) (by simp)
  simpa using this
 case round =>
  obtain ⟨j, g, cp, rfl, rfl, hj, hown, hbel⟩ := hrel
  have hz := hbel.size
  simp at hz
  have c1 := cel (blo (hea w (.cells #[.string a, .slice pp l cap] 43) w.heap.size rfl) hbel (by omega))
  have kb : Kept w wr := ((Kept.refl w).below ((Below.refl w.heap.size w).alloc (by simp) _) (Nat.le_refl _)).below hbel (by omega)
  by_cases hlt : j + 1 < l
  ·have HPPo := HPP.out (by omega)
   subst HPPo
   have ca := kb.cell (HA.out (j + 1) hlt)
   have cb := kb.cell (HB.out (j + 1) hlt)
   obtain ⟨p, hp⟩ : ∃ p, ps[j + 1]? = some p := ⟨ps[j + 1]'(by rw [HL.out]; exact hlt), List.getElem?_eq_getElem _⟩
   have HC := hid (HIH.out (j + 1) p hp wr kb (by omega))
   have HP := hid hp
   have HOWN := hid hown
   obtain ⟨i0, hi0, hz0, hz1, hz2⟩ := info_parts Tryz.infoStr
   have HJ := hid hj
   have KB := hid kb
   clear hp hown hj kb
   go_wp2_with (first | (at_builtin; refine wpl _ rfl (.tmp 18) (.tmp 25) 22 rfl (w.heap.size + 1) 9 i0 (.string ByteArray.empty) 1 16 Tryz.underlying22 hi0 hz0 hz1 hz2 rfl (by decide) (.slice (some ⟨g, 0, none⟩) j cp) j _ rfl ((ows HOWN.out hb1).alloc _) ⟨w1.heap.size, 0, none⟩ 1 1 [.string p.kind] rfl rfl (cen _ _ _ _ rfl) (by intro u hu; simp at hu; subst hu; rfl) (by decide) (by unfold maxLen; omega) (by omega) (by have := hb1.size; simp; omega) ?_; intro v' w2 hown2 hg2 hw2 hv2; obtain ⟨g2, kc, rfl⟩ := hv2; have HG := hid hg2; have HO := hid hown2; clear hg2 hown2 hw2) | (go_at_call 99; refine HC.out.mono ?_; rintro e w1 ⟨rfl, hb1⟩))
   go_roundw
   case rel =>
    refine ⟨j + 1, g2, kc, by go_num, rfl, Or.inr (by omega), ?_, ?_⟩
    ·rw [kinds_snoc ps j p HP.out, List.map_append]; exact HO.out
    ·have hlo := HOWN.out.lt
     exact ((hbel.trans (hb1.mono (by omega))).alloc (by have := hb1.size; omega) _).grown HG.out (by have := hb1.size; simp; omega) (fun k e => (hlo k e).1)
   case measure => simp [intOf]; omega
  ·have hks : ((ps.map Tree.kind).drop 1).take j = (ps.map Tree.kind).drop 1 := List.take_of_length_le (by simp [HL.out]; omega)
   have hlk : ((ps.map Tree.kind).drop 1).length = j := by simp [HL.out]; omega
   rw [hks] at hown
   have HS := hid (strs_own hown)
   have HLK := hid hlk
   have HD := hid (HH.out wr kb)
   obtain ⟨ks, hkse⟩ : ∃ ks, ks = (ps.map Tree.kind).drop 1 := ⟨_, rfl⟩
   rw [← hkse] at HS HLK ⊢
   have hjb : j ≤ 20000 := by omega
   have HKSE := hid hkse
   clear hkse
   clear hks hlk hown hj kb
   have HBW : Hid (Below w.heap.size w wr) := (((Below.refl _ _).alloc (by simp) _).trans (hbel.mono (by omega)))
   go_wp2_with (go_at_call 94; refine HD.out.mono ?_; rintro e w1 ⟨rfl, hb1⟩)
   ·have e0 : (hd.toList == [42]) = true := by assumption
    have HQ := hid (nodeKind_0 (ks := ks) e0)
    refine (l1If_n _ ks [strV, strV] _ _ _ _ 2 _ _ (HS.out.kept ((Kept.of_below hb1 (Nat.le_refl _)).alloc hb1.size _)) (strs_new2 _ _ _ _ _ rfl) HLK.out rfl (by decide)).mono ?_
    rintro e w2 ⟨rfl, hb2⟩
    go_wp2_with fail
    go_ret
    exact ⟨rer (by rw [← HKSE.out, HQ.out]; rfl), HBW.out.trans ((hb1.mono (by omega)).trans (((Below.refl _ _).alloc (by have := hb1.size; omega) _).trans (hb2.mono (by have := hb1.size; simp; omega))))⟩
   ·have e0 : (hd.toList == [42]) = false := by assumption
    have e1 : (hd.toList == [117]) = true := by assumption
    have HQ := hid (nodeKind_1 (ks := ks) e0 e1)
    refine (l1If_n _ ks [strC] _ _ _ _ 1 _ _ (HS.out.kept ((Kept.of_below hb1 (Nat.le_refl _)).alloc hb1.size _)) (strs_new1 _ _ _ _ rfl) HLK.out rfl (by decide)).mono ?_
    rintro e w2 ⟨rfl, hb2⟩
    go_wp2_with fail
    go_ret
    exact ⟨rer (by rw [← HKSE.out, HQ.out]; rfl), HBW.out.trans ((hb1.mono (by omega)).trans (((Below.refl _ _).alloc (by have := hb1.size; omega) _).trans (hb2.mono (by have := hb1.size; simp; omega))))⟩
   ·have e0 : (hd.toList == [42]) = false := by assumption
    have e1 : (hd.toList == [117]) = false := by assumption
    have e2 : (hd.toList == [102]) = true := by assumption
    have HQ := hid (nodeKind_2 (ks := ks) e0 e1 e2)
    refine (l1If_n _ ks [strV] _ _ _ _ 1 _ _ (HS.out.kept ((Kept.of_below hb1 (Nat.le_refl _)).alloc hb1.size _)) (strs_new1 _ _ _ _ rfl) HLK.out rfl (by decide)).mono ?_
    rintro e w2 ⟨rfl, hb2⟩
    go_wp2_with fail
    go_ret
    exact ⟨rer (by rw [← HKSE.out, HQ.out]; rfl), HBW.out.trans ((hb1.mono (by omega)).trans (((Below.refl _ _).alloc (by have := hb1.size; omega) _).trans (hb2.mono (by have := hb1.size; simp; omega))))⟩
   ·have e0 : (hd.toList == [42]) = false := by assumption
    have e1 : (hd.toList == [117]) = false := by assumption
    have e2 : (hd.toList == [102]) = false := by assumption
    have e3 : (hd.toList == [62]) = true := by assumption
    have HQ := hid (nodeKind_3 (ks := ks) e0 e1 e2 e3)
    refine (l1If_n _ ks [strV, strC] _ _ _ _ 2 _ _ (HS.out.kept ((Kept.of_below hb1 (Nat.le_refl _)).alloc hb1.size _)) (strs_new2 _ _ _ _ _ rfl) HLK.out rfl (by decide)).mono ?_
    rintro e w2 ⟨rfl, hb2⟩
    go_wp2_with fail
    go_ret
    exact ⟨rer (by rw [← HKSE.out, HQ.out]; rfl), HBW.out.trans ((hb1.mono (by omega)).trans (((Below.refl _ _).alloc (by have := hb1.size; omega) _).trans (hb2.mono (by have := hb1.size; simp; omega))))⟩
   ·have e0 : (hd.toList == [42]) = false := by assumption
    have e1 : (hd.toList == [117]) = false := by assumption
    have e2 : (hd.toList == [102]) = false := by assumption
    have e3 : (hd.toList == [62]) = false := by assumption
    have e4 : (hd.toList == [38]) = true := by assumption
    have HQ := hid (nodeKind_4 (ks := ks) e0 e1 e2 e3 e4)
    refine (l1If_n _ ks [strC, strC] _ _ _ _ 2 _ _ (HS.out.kept ((Kept.of_below hb1 (Nat.le_refl _)).alloc hb1.size _)) (strs_new2 _ _ _ _ _ rfl) HLK.out rfl (by decide)).mono ?_
    rintro e w2 ⟨rfl, hb2⟩
    go_wp2_with fail
    go_ret
    exact ⟨rer (by rw [← HKSE.out, HQ.out]; rfl), HBW.out.trans ((hb1.mono (by omega)).trans (((Below.refl _ _).alloc (by have := hb1.size; omega) _).trans (hb2.mono (by have := hb1.size; simp; omega))))⟩
   ·have e0 : (hd.toList == [42]) = false := by assumption
    have e1 : (hd.toList == [117]) = false := by assumption
    have e2 : (hd.toList == [102]) = false := by assumption
    have e3 : (hd.toList == [62]) = false := by assumption
    have e4 : (hd.toList == [38]) = false := by assumption
    have HQ := hid (nodeKind_5 (ks := ks) e0 e1 e2 e3 e4)
    go_ret
    exact ⟨rer (by rw [← HKSE.out, HQ.out]; rfl), HBW.out.trans (hb1.mono (by omega))⟩
theorem l1Kind_any {w0 : World} {S : Nat → Prop} {t : Tree} {h : Hd} (ht : TIn w0 S t h) : t.wt ≤ 12000 → ∀ w, Kept w0 w → w0.heap.size ≤ w.heap.size →
    Calls Tryz.prog 99 #[.agg #[.string h.a, .slice h.p h.l h.c]] w fun e w' => e = .returned (.string t.kind) ∧ Below w.heap.size w w' := by
 have hh := fun (w : World) (hk : Kept w0 w) => l1Head_any ht w hk
 induction ht with
 | atom s hne hm =>
  intro _ w hk hw
  by_cases hb : s.toList = [98]
  ·have h1 : (s.toList == [98]) = true := by simp [hb]
   have HB := hid hb
   clear hb hh
   go_enter Tryz.func99, Tryz.ntmps99
   go_wp2_with fail
   go_ret
   exact ⟨rer (by rw [Tree.kind, if_pos HB.out]; rfl), (Below.refl _ _).alloc (by simp) _⟩
  ·have := l1Kind_go [] s 0 0 none 0 (fun _ => default) ByteArray.empty w hb rfl (by omega) (by omega) (fun i hi => by omega) (fun i hi => by omega) (fun i p hp => by simp at hp) (fun w' hk' => hh w' (hk.trans hk' hw))
   refine this.mono fun e w' h => ⟨?_, h.2⟩
   rw [h.1, Tree.kind, if_neg hb, nodeKind_empty]
 | node ps b cap A hp hl hc hS hA hB hps ih =>
  intro hsz w hk hw
  have hlen := wtl ps
  rw [Tree.wt] at hsz
  have := l1Kind_go ps ByteArray.empty b cap (some ⟨b, 0, none⟩) ps.length A (Tree.node ps).headAtom w (by rw [emp]; simp) rfl (by omega) (fun _ => rfl) (fun i hi => hk.cell (hA i hi)) (fun i hi => hk.cell (hB i hi))
   (fun i p hp w' hk' hw' => ih i p hp (fun w hk => l1Head_any (hps i p hp) w hk) (by have := wtp ps i p hp; omega) w' (hk.trans hk' hw) (by omega)) (fun w' hk' => hh w' (hk.trans hk' hw))
  refine this.mono fun e w' h => ⟨?_, h.2⟩
  rw [h.1, Tree.kind, kinds_map]
end Go.Proofs.YtfogjomebcponaaGreatDoor
