/- TermPut, merged: Text, PutQ, SizeN, TextT, FreeM, SortS, ClosedS. -/
import Derived.Test.YtjennpiogdcngabGreatDoorKidsP
import Derived.Test.YtjennpiogdcngabGreatDoorPutMA
import Derived.Test.YtjennpiogdcngabGreatDoorSizeP
import Derived.Test.YtjennpiogdcngabGreatDoorTyKids
import Derived.Test.YtjennpiogdcngabGreatDoorWriteW
import Derived.Test.YtjennpiogdcngabGreatDoorTermU
import Derived.Test.YtjennpiogdcngabGreatDoorSpecU0
import Derived.Test.YtjennpiogdcngabGreatDoorPartT
import Derived.Test.YtjennpiogdcngabGreatDoorSortT0
import Derived.Test.YtjennpiogdcngabGreatDoorFreeS
namespace Go.Proofs.YtjennpiogdcngabGreatDoor
open Go.RowKit

/-- Parts with blanks between them. -/
def Tree.join : List Tree → List UInt8
  | [] => []
  | p :: ps => p.write ++ Tree.writes ps
theorem write_node (ps : List Tree) : (Tree.node ps).write = 40 :: (Tree.join ps ++ [41]) := by
  cases ps with
  | nil => rfl
  | cons p ps => rw [Tree.write, Tree.join]; simp
theorem writes_append (a b : List Tree) : Tree.writes (a ++ b) = Tree.writes a ++ Tree.writes b := by
  induction a with
  | nil => rfl
  | cons p a ih => simp [Tree.writes, ih]
theorem join_append (a b : List Tree) (h : a ≠ []) : Tree.join (a ++ b) = Tree.join a ++ Tree.writes b := by
  cases a with
  | nil => exact absurd rfl h
  | cons p a => simp [Tree.join, writes_append]
theorem join_take (ps : List Tree) (j : Nat) : (Tree.join (ps.take j)).length ≤ (Tree.join ps).length := by
  by_cases h : ps.take j = []
  · rw [h]; simp [Tree.join]
  · conv => rhs; rw [← List.take_append_drop j ps, join_append _ _ h]
    simp
theorem join_snoc (ps : List Tree) (j : Nat) (p : Tree) (h : ps[j]? = some p) (hj : 0 < j) : Tree.join (ps.take (j + 1)) = Tree.join (ps.take j) ++ 32 :: p.write := by
  rw [List.take_add_one, h]
  have hlt := (List.getElem?_eq_some_iff.1 h).1
  rw [join_append _ _ (by intro e; have := congrArg List.length e; rw [List.length_take, List.length_nil] at this; omega)]
  simp [Tree.writes]
theorem join_first (ps : List Tree) (p : Tree) (h : ps[0]? = some p) : Tree.join (ps.take 1) = p.write := by
  cases ps with
  | nil => simp at h
  | cons q ps => simp at h; subst h; simp [Tree.join, Tree.writes]
theorem join_part (ps : List Tree) (j : Nat) (p : Tree) (h : ps[j]? = some p) : p.write.length ≤ (Tree.join ps).length := by
  have h1 := join_take ps (j + 1)
  by_cases hj : j = 0
  · subst hj; rw [join_first ps p h] at h1; exact h1
  · rw [join_snoc ps j p h (by omega)] at h1; simp at h1; omega
theorem size_toList (a : ByteArray) : a.size = a.toList.length := by rw [Go.ByteArray.toList_eq]; simp
/-- A tree's text. -/
def Tree.txt (t : Tree) : ByteArray := ⟨t.write.toArray⟩
theorem txt_toList (t : Tree) : t.txt.toList = t.write := by rw [Go.ByteArray.toList_eq]; rfl
theorem txt_size (t : Tree) : t.txt.size = t.write.length := by simp [Tree.txt, ByteArray.size]

set_option maxRecDepth 100000 in
set_option maxHeartbeats 2000000 in
theorem l1Text_big {w0 : World} {S : Nat → Prop} {t : Tree} {h : Hd} (ht : TIn w0 S t h) : t.write.length ≤ 400000000 → t.wt ≤ 400000000 → ∀ w, Kept w0 w → w0.heap.size ≤ w.heap.size →
    Calls Tryz.prog 53 #[.agg #[.string h.a, .slice h.p h.l h.c]] w fun e w' => e = .returned (.string t.txt) ∧ Below w.heap.size w w' := by
  induction ht with
  | atom s hne hm =>
    intro _ _ w _ _
    have he := isEmpty_not s hne
    have hx : s = (Tree.atom s).txt := by rw [Tree.txt, Tree.write]
    have HX := hid hx
    clear hx
    go_enter Tryz.func53, Tryz.ntmps53
    go_wp2
    go_ret
    exact ⟨ret_str HX.out, (Below.refl _ _).alloc (by simp) _⟩
  | node ps b cap A hp hl hc hS hA hB hps ih =>
    intro hwl hwt w hk hw
    have hlen := wts_length ps
    rw [Tree.wt] at hwt
    rw [write_node] at hwl
    obtain ⟨n, hn⟩ : ∃ n, n = ps.length := ⟨_, rfl⟩
    rw [← hn] at hp hl hA hB hlen ⊢
    have hjl : (Tree.join ps).length ≤ 400000000 := by simp at hwl; omega
    have HN := hid hn
    have HIH := hid ih
    have HA := hid hA
    have HB := hid hB
    have HK := hid hk
    have HWT := hid hwt
    have HJL := hid hjl
    clear hn ih hA hB hk hps hwt hjl hwl
    have hn2 : n ≤ 400000000 := by have := HWT.out; omega
    go_enter Tryz.func53, Tryz.ntmps53
    go_wp2_with fail
    go_loopw [3, 4] (fun v u wr => ∃ (j : Nat) (o : ByteArray), j ≤ n ∧ u = .int .i64 (j : Int) ∧ v = .string o ∧ o.size ≤ 400000001 ∧ Hid (o.toList = 40 :: Tree.join (ps.take j)) ∧ Below (w.heap.size + 1) (w.alloc (.cells #[.string ByteArray.empty, .slice (some ⟨b, 0, none⟩) n cap] 40)) wr) (fun _ u _ => n - (intOf u).toNat)
    case atStart => exact ⟨0, _, Nat.zero_le _, rfl, rfl, by decide, hid (by rw [Go.ByteArray.toList_eq]; rfl), Below.refl _ _⟩
    case round =>
      obtain ⟨j, o, hj, rfl, rfl, ho, hol, hbel⟩ := hrel
      have hz := hbel.size
      simp at hz
      have kb : Kept w wr := ((Kept.refl w).alloc (Nat.le_refl _) _).below hbel (by omega)
      have e1 := cells_of_pair (block_below (heap_new w (.cells #[.string ByteArray.empty, .slice (some ⟨b, 0, none⟩) n cap] 40) w.heap.size rfl) hbel (by omega))
      have HBW : Hid (Below w.heap.size w wr) := ((Below.refl _ _).alloc (by simp) _).trans (hbel.mono (by omega))
      by_cases hlt : j < n
      · have kw : Kept w0 wr := HK.out.trans kb hw
        have ca := kw.cell (HA.out j hlt)
        have cb := kw.cell (HB.out j hlt)
        obtain ⟨p, hp⟩ : ∃ p, ps[j]? = some p := ⟨_, List.getElem?_eq_getElem (by rw [← HN.out]; exact hlt)⟩
        have hpl := join_part ps j p hp
        have hps1 : p.txt.size ≤ 400000000 := by rw [txt_size]; have := HJL.out; omega
        have HC := hid (HIH.out j p hp (by have := HJL.out; omega) (by have := wt_part ps j p hp; have := HWT.out; omega) wr kw (by omega))
        have hjt := join_take ps (j + 1)
        by_cases hj0 : j = 0
        · subst hj0
          have hnx : (o ++ p.txt).toList = 40 :: Tree.join (ps.take (0 + 1)) := by rw [append_toList, hol.out, txt_toList, join_first ps p hp]; simp [Tree.join]
          have hns : (o ++ p.txt).size ≤ 400000001 := by
            rw [size_toList, hnx]
            have := HJL.out
            simp only [List.length_cons]; omega
          have HNX := hid hnx
          have HNS := hid hns
          clear hnx hns hp kw kb hpl hjt
          go_wp2_with (go_at_call 53; refine HC.out.mono ?_; rintro e w1 ⟨rfl, hb1⟩)
          go_roundw
          case rel => exact ⟨0 + 1, o ++ p.txt, by omega, by go_num, rfl, HNS.out, HNX, hbel.trans (hb1.mono (by omega))⟩
          case measure => simp [intOf]; omega
        · have hnx : ((o ++ ({ data := #[32] } : ByteArray)) ++ p.txt).toList = 40 :: Tree.join (ps.take (j + 1)) := by rw [append_toList, append_toList, hol.out, txt_toList, space_toList, join_snoc ps j p hp (by omega)]; simp
          have hns : ((o ++ ({ data := #[32] } : ByteArray)) ++ p.txt).size ≤ 400000001 := by
            rw [size_toList, hnx]
            have := HJL.out
            simp only [List.length_cons]; omega
          have HNX := hid hnx
          have HNS := hid hns
          have hj1 : 0 < j := by omega
          clear hnx hns hp kw kb hpl hjt hj0
          go_wp2_with (go_at_call 53; refine HC.out.mono ?_; rintro e w1 ⟨rfl, hb1⟩)
          go_roundw
          case rel => exact ⟨j + 1, _, by omega, by go_num, rfl, HNS.out, HNX, hbel.trans (hb1.mono (by omega))⟩
          case measure => simp [intOf]; omega
      · have hjn : j = n := by omega
        have HJN := hid hjn
        clear hjn kb
        go_wp2_with fail
        go_ret
        refine ⟨ret_str ?_, HBW.out⟩
        have := hol.out
        rw [HJN.out, HN.out, List.take_length] at this
        rw [bytes_of_toList (show (o ++ ({ data := #[41] } : ByteArray)).toList = 40 :: (Tree.join ps ++ [41]) by rw [append_toList, this, show ({ data := #[41] } : ByteArray).toList = [41] by rw [Go.ByteArray.toList_eq]]; simp), Tree.txt, write_node]
theorem l1Text_any {w0 : World} {S : Nat → Prop} {t : Tree} {h : Hd} (ht : TIn w0 S t h) (h1 : t.write.length ≤ 12000) (h2 : t.wt ≤ 12000) (w : World) (hk : Kept w0 w) (hw : w0.heap.size ≤ w.heap.size) :
    Calls Tryz.prog 53 #[.agg #[.string h.a, .slice h.p h.l h.c]] w fun e w' => e = .returned (.string t.txt) ∧ Below w.heap.size w w' := l1Text_big ht (by omega) (by omega) w hk hw
end Go.Proofs.YtjennpiogdcngabGreatDoor

namespace Go.Proofs.YtjennpiogdcngabGreatDoor
open Go.RowKit

theorem depthR_app (s : List UInt8) : ∀ (a b : List ByteArray) (n : Nat), hasB a s = true → depthR s (a ++ b) n = depthR s a n
  | [], b, n, h => by simp [hasB] at h
  | x :: a, b, n, h => by
    rw [List.cons_append, depthR, depthR]
    by_cases e : x.toList = s
    · rw [if_pos e, if_pos e]
    · rw [if_neg e, if_neg e]
      have e' : ¬ s = x.toList := fun h => e h.symm
      exact depthR_app s a b (n + 1) (by simpa [hasB, e'] using h)
theorem depthIn_app {s : List UInt8} {ar bd : List ByteArray} (h : hasB bd s = true) : depthIn s (ar ++ bd) = depthIn s bd := by
  unfold depthIn
  rw [List.reverse_append]
  exact depthR_app s _ _ 0 (by simpa [hasB] using h)
/-- What is closed among some names is the same term among more. -/
def ClosedOk (ar : List ByteArray) (p : Tree) : Prop := ∀ bd m, p.tm bd = some m → p.free bd = [] → p.tm (ar ++ bd) = some m
theorem parts_closed (ar bd : List ByteArray) (xs : List ByteArray) : ∀ (cs : List Sg) (ps : List Tree) (st st' : St) (b : Bool), (∀ p ∈ ps, ClosedOk ar p) → cs.length = ps.length → goodSh cs b = true → (b = false → st.binds = []) → xs = st.binds ++ xsOf cs ps → Tree.frees bd xs cs ps = [] →
    Tree.parts bd cs ps st = some st' → Tree.parts (ar ++ bd) cs ps st = some st'
  | [], [], st, st', b, _, _, _, _, _, _, h => by simp [Tree.parts] at h ⊢; exact h
  | c :: cs, p :: ps, st, st', b, ih, hl, hg, hb, hx, hfr, h => by
    have ih' : ∀ p ∈ ps, ClosedOk ar p := fun q hq => ih q (List.mem_cons_of_mem _ hq)
    have hl' : cs.length = ps.length := by simpa using hl
    rw [Tree.frees, List.append_eq_nil_iff] at hfr
    have kid : ∀ w, xsOf (c :: cs) (p :: ps) = xsOf cs ps → c.isK = true → ((cs.isEmpty || !b) && goodSh cs b) = true →
        (∀ a2 st1, Tree.parts a2 (c :: cs) (p :: ps) st1 = (match addK w (p.tm (a2 ++ st1.binds)) st1 with | some st' => Tree.parts a2 cs ps st' | none => none)) → Tree.parts (ar ++ bd) (c :: cs) (p :: ps) st = some st' := by
      intro w hxo hk hgg hp
      rw [hp] at h ⊢
      cases h1 : addK w (p.tm (bd ++ st.binds)) st with
      | none => rw [h1] at h; simp at h
      | some st1 =>
        rw [h1] at h
        simp only at h
        obtain ⟨m, ht, h3⟩ := addK_inv h1
        simp only [Bool.and_eq_true, Bool.or_eq_true] at hgg
        have hb1 : st1.binds = st.binds := by rw [h3]
        have hi := parts_closed ar bd xs cs ps st1 st' b ih' hl' hgg.2 (fun e => by rw [hb1]; exact hb e) (by rw [hb1, hx, hxo]) hfr.2 h
        have hf := hfr.1
        rw [if_pos hk] at hf
        have hfb : p.free (bd ++ st.binds) = [] := by
          by_cases hce : cs = []
          · rw [if_pos hce] at hf
            have hxb : xs = st.binds := by
              subst hce
              match ps, hl' with
              | [], _ => rw [hx, hxo]; simp [xsOf]
            rw [← hxb]; exact hf
          · rw [if_neg hce] at hf
            have : b = false := by
              rcases hgg.1 with h | h
              · simp at h; exact absurd h hce
              · simpa using h
            rw [hb this, List.append_nil]; exact hf
        have := ih p (List.mem_cons_self ..) _ _ ht hfb
        rw [List.append_assoc, this, ← ht, h1]
        exact hi
    cases c with
    | X =>
      rw [Tree.parts] at h ⊢
      cases h1 : addX p.text st with
      | none => rw [h1] at h; simp at h
      | some st1 =>
        rw [h1] at h
        have h2 := addX_inv h1
        exact parts_closed ar bd xs cs ps st1 st' true ih' hl' (by simpa [goodSh] using hg) (by simp) (by rw [hx, h2.2]; simp [xsOf]) hfr.2 h
    | A =>
      rw [Tree.parts] at h ⊢
      cases h1 : addT true p st with
      | none => rw [h1] at h; simp at h
      | some st1 =>
        rw [h1] at h
        obtain ⟨ty, ht, h2⟩ := addT_inv h1
        exact parts_closed ar bd xs cs ps st1 st' b ih' hl' (by simpa [goodSh] using hg) (fun e => by rw [h2]; exact hb e) (by rw [hx, h2]; simp [xsOf]) hfr.2 h
    | C =>
      rw [Tree.parts] at h ⊢
      cases h1 : addT false p st with
      | none => rw [h1] at h; simp at h
      | some st1 =>
        rw [h1] at h
        obtain ⟨ty, ht, h2⟩ := addT_inv h1
        exact parts_closed ar bd xs cs ps st1 st' b ih' hl' (by simpa [goodSh] using hg) (fun e => by rw [h2]; exact hb e) (by rw [hx, h2]; simp [xsOf]) hfr.2 h
    | V => exact kid true (by simp [xsOf]) rfl (by simpa only [goodSh] using hg) (fun a2 st1 => by rw [Tree.parts]; rfl)
    | M => exact kid false (by simp [xsOf]) rfl (by simpa only [goodSh] using hg) (fun a2 st1 => by rw [Tree.parts]; rfl)
theorem closed_tm (ar : List ByteArray) (t : Tree) : ClosedOk ar t := by
  intro bd m h hf
  match t with
  | .atom x =>
    rw [Tree.tm, atomTm] at h ⊢
    split at h
    · rename_i c; rw [if_pos c]; exact h
    · rename_i c0
      rw [if_neg c0]
      split at h
      · rename_i c
        rw [if_pos c]
        rw [Tree.free] at hf
        have hh : hasB bd x.toList = true := by
          cases e : hasB bd x.toList with
          | true => rfl
          | false => rw [if_pos ⟨c, e⟩] at hf; simp at hf
        rw [depthIn_app hh]; exact h
      · simp at h
  | .node [] => rw [Tree.tm] at h; simp at h
  | .node (q :: ps) =>
    obtain ⟨st, h1, h2, h3, rfl⟩ := tm_node h
    rw [Tree.free] at hf
    have := parts_closed ar bd (xsOf (shape q.text.toList) ps) _ ps St.none st false (fun p hp => closed_tm ar p) h2 (shape_good _) (fun _ => rfl) (by simp [St.none]) hf h3
    rw [Tree.tm, if_neg (fun e => by rcases e with e | e; exact h1 e; exact e h2), this]
termination_by t
decreasing_by
  have := List.sizeOf_lt_of_mem hp
  simp; omega
theorem closed_all {t : Tree} {m : Tm} (h : t.tm [] = some m) (hf : t.free [] = []) : ∀ ar, t.tm ar = some m := fun ar => by
  have := closed_tm ar t [] m h hf
  rwa [List.append_nil] at this

theorem puts_mem {s : List UInt8} {v : Tree} {xs : List ByteArray} : ∀ (cs : List Sg) (ps : List Tree) (x : Tree), x ∈ Tree.puts s v xs cs ps → ∃ p ∈ ps, x = p ∨ x = Tree.put s v p
  | [], ps, x, h => by rw [Tree.puts] at h; exact ⟨x, h, Or.inl rfl⟩
  | _ :: _, [], x, h => by rw [Tree.puts] at h; simp at h
  | c :: cs, p :: ps, x, h => by
    rw [Tree.puts] at h
    rcases List.mem_cons.1 h with h | h
    · refine ⟨p, List.mem_cons_self .., ?_⟩
      split at h
      · exact Or.inr h
      · exact Or.inl h
    · obtain ⟨q, hq, e⟩ := puts_mem cs ps x h
      exact ⟨q, List.mem_cons_of_mem _ hq, e⟩
theorem put_wk {s : List UInt8} {v : Tree} (hv : v.wk) (t : Tree) (h : t.wk) : (Tree.put s v t).wk := by
  match t with
  | .atom x => rw [Tree.put]; split; exact hv; exact h
  | .node [] => rw [Tree.put]; exact h
  | .node (q :: ps) =>
    rw [Tree.wk] at h
    have hm := wks_mem h.2
    rw [Tree.put, Tree.wk]
    refine ⟨by simp, wks_of fun x hx => ?_⟩
    rcases List.mem_cons.1 hx with rfl | hx
    · exact hm _ (List.mem_cons_self ..)
    · obtain ⟨p, hp, e⟩ := puts_mem _ _ _ hx
      have hw := hm p (List.mem_cons_of_mem _ hp)
      rcases e with e | e
      · rw [e]; exact hw
      · rw [e]; exact put_wk hv p hw
termination_by t
decreasing_by
  have := List.sizeOf_lt_of_mem hp
  simp; omega
/-- A tree's text tells the tree. -/
theorem write_inj {t u : Tree} (ht : t.wk) (hu : u.wk) (h : t.write = u.write) : t = u := by
  have h1 := rd_back t.txt (Nat.max t.dp u.dp) t 0 [] ht (Nat.le_max_left _ _) (by rw [List.drop_zero, List.append_nil]; rfl) (by intro b q e; cases e)
  have h2 := rd_back t.txt (Nat.max t.dp u.dp) u 0 [] hu (Nat.le_max_right _ _) (by rw [List.drop_zero, List.append_nil, ← h]; rfl) (by intro b q e; cases e)
  rw [h1] at h2
  simp only [Option.some.injEq, Prod.mk.injEq] at h2
  exact h2.1
theorem parse_txt {T t : Tree} (hT : T.wk) (h : parse T.txt = some t) : t = T :=
  (write_inj hT (parse_wk h).1 (by rw [← parse_write h]; rfl)).symm
/-- WHAT IS READ OF A TREE's TEXT. -/
theorem readTm_txt {T : Tree} {r : Tm} (hT : T.wk) (hr : T.tm [] = some r) : readTm T.txt = if (parse T.txt).isSome = true ∧ r.size ≤ 1500 then some r else none := by
  unfold readTm
  cases hp : parse T.txt with
  | none => simp
  | some t =>
    have := parse_txt hT hp
    subst this
    simp only [Option.isSome_some, true_and]
    rw [← tm_size t [] r hr]
    by_cases h : t.size ≤ 1500
    · rw [if_pos h, if_pos h]; exact hr
    · rw [if_neg h, if_neg h]
end Go.Proofs.YtjennpiogdcngabGreatDoor

namespace Go.Proofs.YtjennpiogdcngabGreatDoor
open Go.RowKit

/-- What a method that lists a type's parts leaves. -/
def KidsOk (l : List Ty) (w : World) (e : Ending) (w' : World) : Prop := ∃ p c, e = .returned (.slice p l.length c) ∧ Vals w' p (l.map Ty.val) ∧ Below w.heap.size w w'
theorem kidsOk_bit (w : World) : Calls Tryz.prog 208 #[.agg #[]] w (KidsOk [] w) := (kids_bit w).mono fun _ _ ⟨he, hb⟩ => ⟨none, 0, he, (fun i v h => by simp at h), hb⟩
theorem kidsOk_pair (x y : Ty) (w : World) : Calls Tryz.prog 188 #[.agg #[x.val, y.val]] w (KidsOk [x, y] w) := (kids_pair x y w).mono fun _ _ ⟨_, he, hh, hb⟩ => ⟨_, _, he, vals_two hh, hb⟩
theorem kidsOk_thunk (x : Ty) (w : World) : Calls Tryz.prog 192 #[.agg #[x.val]] w (KidsOk [x] w) := (kids_thunk x w).mono fun _ _ ⟨_, he, hh, hb⟩ => ⟨_, _, he, vals_one hh, hb⟩
theorem kidsOk_ret (x : Ty) (w : World) : Calls Tryz.prog 196 #[.agg #[x.val]] w (KidsOk [x] w) := (kids_ret x w).mono fun _ _ ⟨_, he, hh, hb⟩ => ⟨_, _, he, vals_one hh, hb⟩
theorem kidsOk_fn (x y : Ty) (w : World) : Calls Tryz.prog 200 #[.agg #[x.val, y.val]] w (KidsOk [x, y] w) := (kids_fn x y w).mono fun _ _ ⟨_, he, hh, hb⟩ => ⟨_, _, he, vals_two hh, hb⟩
theorem kidsOk_choice (x y : Ty) (w : World) : Calls Tryz.prog 204 #[.agg #[x.val, y.val]] w (KidsOk [x, y] w) := (kids_choice x y w).mono fun _ _ ⟨_, he, hh, hb⟩ => ⟨_, _, he, vals_two hh, hb⟩
theorem atomsL_append (a b : List Ty) : Ty.atomsL (a ++ b) = Ty.atomsL a + Ty.atomsL b := by
  induction a with
  | nil => simp [Ty.atomsL]
  | cons x a ih => simp only [List.cons_append, Ty.atomsL, ih]; omega
theorem atomsL_snoc (l : List Ty) (i : Nat) (t : Ty) (h : l[i]? = some t) : Ty.atomsL (l.take (i + 1)) = Ty.atomsL (l.take i) + t.atoms := by
  rw [List.take_add_one, h, Option.toList_some, atomsL_append, Ty.atomsL, Ty.atomsL]; omega
theorem atomsL_take (l : List Ty) (i : Nat) : Ty.atomsL (l.take i) ≤ Ty.atomsL l := by
  have h := atomsL_append (l.take i) (l.drop i)
  rw [List.take_append_drop] at h; omega

set_option maxRecDepth 100000 in
set_option maxHeartbeats 2000000 in
theorem typeAtoms_go (n f : Nat) (v : Value) (l : List Ty) (k : Nat) (hk : l.length = k) (hk2 : k ≤ 2) (hsz : Ty.atomsL l ≤ 400000000)
    (he : ∀ args w, (callFunc f args).run Tryz.prog w = .ok (.enter f args) w) (mk : ∀ w, (method 329 n v "loop.example/pushvalue/impl.kids").run Tryz.prog w = .ok (f, v) w) (hkids : ∀ W, Calls Tryz.prog f #[v] W (KidsOk l W))
    (ih : ∀ (i : Nat) (t : Ty), l[i]? = some t → ∀ W, Calls Tryz.prog 120 #[t.val] W fun e w' => e = .returned (.int .i64 (t.atoms : Int)) ∧ Below W.heap.size W w') (w : World) :
    Calls Tryz.prog 120 #[.iface n v] w fun e w' => e = .returned (.int .i64 (1 + (Ty.atomsL l : Int))) ∧ Below w.heap.size w w' := by
  have HK := hid hk
  have HC := hid hkids
  have HIH := hid ih
  clear hk hkids ih
  go_enter Tryz.func120, Tryz.ntmps120
  go_wp2_with (go_at_fn f; refine (HC.out _).mono ?_; rintro e w1 ⟨p, c, rfl, hv, hb1⟩; rw [HK.out])
  have HV := hid hv
  clear hv
  go_loopw [3, 9] (fun a u wr => ∃ i : Nat, i ≤ k ∧ u = .int .i64 (i : Int) ∧ a = .int .i64 (1 + (Ty.atomsL (l.take i) : Int)) ∧ Below w1.heap.size w1 wr) (fun _ u _ => k - (intOf u).toNat)
  case atStart => exact ⟨0, Nat.zero_le _, rfl, by simp [Ty.atomsL], Below.refl _ _⟩
  case round =>
    obtain ⟨i, hi, rfl, rfl, hbel⟩ := hrel
    have hz := hbel.size
    have htk := atomsL_take l i
    by_cases hlt : i < k
    · obtain ⟨t, ht⟩ : ∃ t, l[i]? = some t := ⟨_, List.getElem?_eq_getElem (by rw [HK.out]; exact hlt)⟩
      obtain ⟨b, o, rfl, hc⟩ := HV.out i t.val (by simp [ht])
      have hc' := (hbel.cell (p := ⟨b, o + i, none⟩) (World.block_lt_of_cell? w1 _ hc)).trans hc
      have HT := hid (HIH.out i t ht)
      have hsn := atomsL_snoc l i t ht
      have htk2 := atomsL_take l (i + 1)
      have hbd : Ty.atomsL (l.take i) + t.atoms ≤ 400000000 := by omega
      have HSN := hid hsn
      clear hc ht hsn htk2
      go_wp2_with (go_at_call 120; refine (HT.out _).mono ?_; rintro e w2 ⟨rfl, hb2⟩)
      go_roundw
      case rel => exact ⟨i + 1, by omega, by go_num, by rw [HSN.out]; go_num, hbel.trans (hb2.mono hz)⟩
      case measure => simp [intOf]; omega
    · have hin : i = k := by omega
      have HE := hid (show l.take i = l from List.take_of_length_le (by rw [HK.out]; omega))
      clear hin
      go_wp2_with fail
      go_ret
      exact ⟨ret_int (by rw [HE.out]), hb1.trans (hbel.mono hb1.size)⟩
/-- THE PROGRAM's COUNT OF A TYPE's ATOMS. -/
theorem typeAtoms_any : ∀ (t : Ty), t.atoms ≤ 400000000 → ∀ w, Calls Tryz.prog 120 #[t.val] w fun e w' => e = .returned (.int .i64 (t.atoms : Int)) ∧ Below w.heap.size w w'
  | .bit, h, w => by
    refine (typeAtoms_go _ _ _ [] 0 rfl (by decide) (by simp [Ty.atomsL]) (enters_of Tryz.func208 (by kernel_rfl) rfl) m_kids_bit kidsOk_bit (fun i t h => by simp at h) w).mono ?_
    rintro e w' ⟨rfl, hb⟩; exact ⟨ret_int (by simp [Ty.atomsL, Ty.atoms]), hb⟩
  | .pair x y, h, w => by
    rw [Ty.atoms] at h
    refine (typeAtoms_go _ _ _ [x, y] 2 rfl (by decide) (by simp [Ty.atomsL]; omega) (enters_of Tryz.func188 (by kernel_rfl) rfl) (m_kids_pair x.val y.val) (kidsOk_pair x y) (fun i t ht => by match i, ht with | 0, ht => simp at ht; subst ht; exact typeAtoms_any x (by omega) | 1, ht => simp at ht; subst ht; exact typeAtoms_any y (by omega)) w).mono ?_
    rintro e w' ⟨rfl, hb⟩; exact ⟨ret_int (by simp [Ty.atomsL, Ty.atoms]), hb⟩
  | .thunk x, h, w => by
    rw [Ty.atoms] at h
    refine (typeAtoms_go _ _ _ [x] 1 rfl (by decide) (by simp [Ty.atomsL]; omega) (enters_of Tryz.func192 (by kernel_rfl) rfl) (m_kids_thunk x.val) (kidsOk_thunk x) (fun i t ht => by match i, ht with | 0, ht => simp at ht; subst ht; exact typeAtoms_any x (by omega)) w).mono ?_
    rintro e w' ⟨rfl, hb⟩; exact ⟨ret_int (by simp [Ty.atomsL, Ty.atoms]), hb⟩
  | .ret x, h, w => by
    rw [Ty.atoms] at h
    refine (typeAtoms_go _ _ _ [x] 1 rfl (by decide) (by simp [Ty.atomsL]; omega) (enters_of Tryz.func196 (by kernel_rfl) rfl) (m_kids_ret x.val) (kidsOk_ret x) (fun i t ht => by match i, ht with | 0, ht => simp at ht; subst ht; exact typeAtoms_any x (by omega)) w).mono ?_
    rintro e w' ⟨rfl, hb⟩; exact ⟨ret_int (by simp [Ty.atomsL, Ty.atoms]), hb⟩
  | .fn x y, h, w => by
    rw [Ty.atoms] at h
    refine (typeAtoms_go _ _ _ [x, y] 2 rfl (by decide) (by simp [Ty.atomsL]; omega) (enters_of Tryz.func200 (by kernel_rfl) rfl) (m_kids_fn x.val y.val) (kidsOk_fn x y) (fun i t ht => by match i, ht with | 0, ht => simp at ht; subst ht; exact typeAtoms_any x (by omega) | 1, ht => simp at ht; subst ht; exact typeAtoms_any y (by omega)) w).mono ?_
    rintro e w' ⟨rfl, hb⟩; exact ⟨ret_int (by simp [Ty.atomsL, Ty.atoms]), hb⟩
  | .choice x y, h, w => by
    rw [Ty.atoms] at h
    refine (typeAtoms_go _ _ _ [x, y] 2 rfl (by decide) (by simp [Ty.atomsL]; omega) (enters_of Tryz.func204 (by kernel_rfl) rfl) (m_kids_choice x.val y.val) (kidsOk_choice x y) (fun i t ht => by match i, ht with | 0, ht => simp at ht; subst ht; exact typeAtoms_any x (by omega) | 1, ht => simp at ht; subst ht; exact typeAtoms_any y (by omega)) w).mono ?_
    rintro e w' ⟨rfl, hb⟩; exact ⟨ret_int (by simp [Ty.atomsL, Ty.atoms]), hb⟩


set_option maxRecDepth 100000 in
set_option maxHeartbeats 2000000 in
/-- THE PROGRAM's COUNT OF A TERM's ATOMS. -/
theorem size_any {w0 : World} {S : Nat → Prop} {m : Tm} {b : Nat} (hn : NIn w0 S m b) : m.size ≤ 400000000 → ∀ w, Kept w0 w → w0.heap.size ≤ w.heap.size →
    Calls Tryz.prog 87 #[.pointer (some ⟨b, 0, none⟩)] w fun e w' => e = .returned (.int .i64 (m.size : Int)) ∧ Below w.heap.size w w' := by
  induction hn with
  | mk hd a d bs ty ks b bp bl bc kp kl kc A hS hb hbl hkl hbn hbv hkv hks ih =>
   intro hsz w hk hw
   rw [Tm.size] at hsz
   have hlt0 := lt_of_block hb
   have c := cells_of_six ((hk b hlt0).trans hb)
   have HLT := hid (show b < w.heap.size by omega)
   have HKL := hid hkl
   have HBL := hid hbl
   have HKV := hid hkv
   have HIH := hid ih
   have HK := hid hk
   clear ih hk hb hbn hbv hS
   cases ty with
  | none =>
    have c4 := c.2.2.2.2.1
    have c3 := c.2.2.2.1
    have c5 := c.2.2.2.2.2.1
    clear c
    simp only [tyV] at c4
    have hsz2 : Tm.sizes ks ≤ 400000000 := by omega
    have hkl3 : kl ≤ 400000000 := by have := tmsizes_length ks; omega
    have hbl3 : bl ≤ 400000000 := by omega
    have HSZ := hid hsz
    clear hsz hbl hkl hks hkv
    go_enter Tryz.func87, Tryz.ntmps87
    go_wp2_with fail
    have hb1 := Below.refl w.heap.size w
    go_loopw [3, 29] (fun a u wr => ∃ i : Nat, i ≤ kl ∧ u = .int .i64 (i : Int) ∧ a = .int .i64 (1 + (bl : Int) + (Tm.sizes (ks.take i) : Int)) ∧ Below w.heap.size w wr) (fun _ u _ => kl - (intOf u).toNat)
    case atStart => exact ⟨0, Nat.zero_le _, rfl, by simp [Tm.sizes], hb1⟩
    case round =>
      obtain ⟨i, hi, rfl, rfl, hbel⟩ := hrel
      have hz := hbel.size
      have htk := tmsizes_take ks i
      by_cases hlt : i < kl
      · obtain ⟨k, hki⟩ : ∃ k, ks[i]? = some k := ⟨_, List.getElem?_eq_getElem (by rw [HKL.out]; exact hlt)⟩
        obtain ⟨g, rfl, _, hc⟩ := HKV.out i _ (ptrs_get A hlt)
        have hkw : Kept w0 wr := HK.out.below hbel (by omega)
        have hc' := hkw.cell hc
        have HC := hid (HIH.out i k hki (by have := tmsizes_snoc ks i k hki; have := tmsizes_take ks (i + 1); omega) wr hkw (by omega))
        have hsn := tmsizes_snoc ks i k hki
        have htk2 := tmsizes_take ks (i + 1)
        have hbd : Tm.sizes (ks.take i) + k.size ≤ 400000000 := by omega
        have HSN := hid hsn
        clear hc hki hsn htk2 hkw c5
        go_wp2_with (go_at_call 87; refine HC.out.mono ?_; rintro e w2 ⟨rfl, hb2⟩)
        go_roundw
        case rel => exact ⟨i + 1, by omega, by go_num, by rw [HSN.out]; go_num, hbel.trans (hb2.mono (by omega))⟩
        case measure => simp [intOf]; omega
      · have hin : i = kl := by omega
        have HE := hid (show ks.take i = ks from List.take_of_length_le (by rw [HKL.out]; omega))
        clear hin
        go_wp2_with fail
        go_ret
        exact ⟨ret_int (by rw [HE.out, Tm.size, HBL.out]; simp only [tyAtoms]; omega), hbel⟩
  | some t =>
    have c4 := c.2.2.2.2.1
    have c3 := c.2.2.2.1
    have c5 := c.2.2.2.2.2.1
    clear c
    obtain ⟨tn, tv, htv⟩ := t.val_iface
    have HTA := hid (fun W => typeAtoms_any t (by simp only [tyAtoms] at hsz; omega) W)
    have hta2 : t.atoms ≤ 400000000 := by simp only [tyAtoms] at hsz; omega
    simp only [tyV] at c4
    rw [htv] at HTA c4
    clear htv
    have hsz2 : Tm.sizes ks ≤ 400000000 := by omega
    have hkl3 : kl ≤ 400000000 := by have := tmsizes_length ks; omega
    have hbl3 : bl ≤ 400000000 := by omega
    have HSZ := hid hsz
    clear hsz hbl hkl hks hkv
    go_enter Tryz.func87, Tryz.ntmps87
    go_wp2_with (go_at_call 120; refine (HTA.out _).mono ?_; rintro e w1 ⟨rfl, hb1⟩; have kc := (hb1.cell (p := ⟨b, 5, none⟩) HLT.out).trans c5)
    go_loopw [3, 29] (fun a u wr => ∃ i : Nat, i ≤ kl ∧ u = .int .i64 (i : Int) ∧ a = .int .i64 (1 + (bl : Int) + (t.atoms : Int) + (Tm.sizes (ks.take i) : Int)) ∧ Below w.heap.size w wr) (fun _ u _ => kl - (intOf u).toNat)
    case atStart => exact ⟨0, Nat.zero_le _, rfl, by simp [Tm.sizes], hb1⟩
    case round =>
      obtain ⟨i, hi, rfl, rfl, hbel⟩ := hrel
      have hz := hbel.size
      have htk := tmsizes_take ks i
      by_cases hlt : i < kl
      · obtain ⟨k, hki⟩ : ∃ k, ks[i]? = some k := ⟨_, List.getElem?_eq_getElem (by rw [HKL.out]; exact hlt)⟩
        obtain ⟨g, rfl, _, hc⟩ := HKV.out i _ (ptrs_get A hlt)
        have hkw : Kept w0 wr := HK.out.below hbel (by omega)
        have hc' := hkw.cell hc
        have HC := hid (HIH.out i k hki (by have := tmsizes_snoc ks i k hki; have := tmsizes_take ks (i + 1); omega) wr hkw (by omega))
        have hsn := tmsizes_snoc ks i k hki
        have htk2 := tmsizes_take ks (i + 1)
        have hbd : Tm.sizes (ks.take i) + k.size ≤ 400000000 := by omega
        have HSN := hid hsn
        clear hc hki hsn htk2 hkw c5
        go_wp2_with (go_at_call 87; refine HC.out.mono ?_; rintro e w2 ⟨rfl, hb2⟩)
        go_roundw
        case rel => exact ⟨i + 1, by omega, by go_num, by rw [HSN.out]; go_num, hbel.trans (hb2.mono (by omega))⟩
        case measure => simp [intOf]; omega
      · have hin : i = kl := by omega
        have HE := hid (show ks.take i = ks from List.take_of_length_le (by rw [HKL.out]; omega))
        clear hin
        go_wp2_with fail
        go_ret
        exact ⟨ret_int (by rw [HE.out, Tm.size, HBL.out]; simp only [tyAtoms]; omega), hbel⟩

end Go.Proofs.YtjennpiogdcngabGreatDoor

namespace Go.Proofs.YtjennpiogdcngabGreatDoor
open Go.RowKit

set_option maxRecDepth 100000 in
set_option maxHeartbeats 2000000 in
/-- THE PROGRAM's TEXT OF A TERM. -/
theorem text_big {w0 : World} {S : Nat → Prop} {m : Tm} {b : Nat} (hn : NIn w0 S m b) (hf : m.fit) (hl : m.write.length ≤ 20000) (w : World) (hk : Kept w0 w) (hw : w0.heap.size ≤ w.heap.size) :
    Calls Tryz.prog 30 #[.pointer (some ⟨b, 0, none⟩)] w fun e w' => e = .returned (.string ⟨m.write.toArray⟩) ∧ Below w.heap.size w w' := by
  have HW := hid (write_big hn hf hl (w.alloc (.cells #[.pointer none, .slice none 0 0] 98)) w.heap.size w.heap.size none [] (hk.alloc hw _) hw (by simp) (Bd.new w _ rfl) (by simp; omega))
  obtain ⟨L, hL⟩ : ∃ L, m.write = L := ⟨_, rfl⟩
  rw [hL] at HW ⊢
  clear hn hf hl hk hL hw
  go_enter Tryz.func30, Tryz.ntmps30
  go_wp2_with (first | (go_at_call 71; have _ := HBD1; refine (Tryz.Builder_String_any w.heap.size w.heap.size L _ HBD1.out.is HS1.out).mono ?_; rintro e w2 ⟨rfl, hb2⟩) | (go_at_call 70; refine HW.out.mono ?_; rintro e w1 ⟨rfl, g1, hbd1, hx1⟩; have HBD1 := hid (show Bd w1 w.heap.size w.heap.size g1 (Lib.byteCells L) from by simpa using hbd1); have HX1 := hid hx1; have HS1 := hid (show w.heap.size ≤ w1.heap.size from by have := hx1.size; simp at this; omega); clear hbd1 hx1))
  go_ret
  refine ⟨rfl, Below.trans ?_ hb2⟩
  have h1 := HX1.out.to_below (B := w.heap.size) (Nat.le_refl _) (by simp) (fun k e => by cases e)
  exact ((Below.refl w.heap.size w).alloc (Nat.le_refl _) _).trans h1

theorem text_any {w0 : World} {S : Nat → Prop} {m : Tm} {b : Nat} (hn : NIn w0 S m b) (hf : m.fit) (hl : m.write.length ≤ 12000) (w : World) (hk : Kept w0 w) (hw : w0.heap.size ≤ w.heap.size) :
    Calls Tryz.prog 30 #[.pointer (some ⟨b, 0, none⟩)] w fun e w' => e = .returned (.string ⟨m.write.toArray⟩) ∧ Below w.heap.size w w' := text_big hn hf (by omega) w hk hw
end Go.Proofs.YtjennpiogdcngabGreatDoor

namespace Go.Proofs.YtjennpiogdcngabGreatDoor
open Go.RowKit

theorem frees_snoc (ks : List Tm) (i : Nat) (k : Tm) (h : ks[i]? = some k) : Tm.frees (ks.take (i + 1)) = Tm.frees (ks.take i) ++ k.free := by
  rw [List.take_add_one, h, Option.toList_some, frees_append, Tm.frees, Tm.frees, List.append_nil]
mutual
theorem free_length : ∀ m : Tm, m.free.length ≤ m.size
  | .mk hd a d bs ty ks => by
    rw [Tm.free, Tm.size]
    have := frees_length ks
    split
    · simp; omega
    · omega
theorem frees_length : ∀ ks : List Tm, (Tm.frees ks).length ≤ Tm.sizes ks
  | [] => by simp [Tm.frees]
  | k :: ks => by
    rw [Tm.frees, Tm.sizes, List.length_append]
    have := free_length k
    have := frees_length ks
    omega
end

set_option maxRecDepth 100000 in
set_option maxHeartbeats 2000000 in
theorem freeNames_any {w0 : World} {S : Nat → Prop} {m : Tm} {b : Nat} (hn : NIn w0 S m b) : m.size ≤ 100000 → ∀ w, Kept w0 w → w0.heap.size ≤ w.heap.size →
    Calls Tryz.prog 28 #[.pointer (some ⟨b, 0, none⟩)] w (OwnS m.free w) := by
  induction hn with
  | mk hd a d bs ty ks b bp bl bc kp kl kc A hS hb hbl hkl hbn hbv hkv hks ih =>
    intro hsz w hk hw
    have hfl := free_length (.mk hd a d bs ty ks)
    have hfk := frees_length ks
    rw [Tm.size] at hsz hfl
    have hlt0 := lt_of_block hb
    have c := cells_of_six ((hk b hlt0).trans hb)
    have c0 := c.1
    have c1 := c.2.1
    have c2 := c.2.2.1
    have c5 := c.2.2.2.2.2.1
    have hkl3 : kl ≤ 100000 := by have := tmsizes_length ks; omega
    have hsk : Tm.sizes ks ≤ 100000 := by omega
    have HKL := hid hkl
    have HKV := hid hkv
    have HIH := hid ih
    have HK := hid hk
    clear ih hk hb hbn hbv hS c hkl hkv hks hbl hfl hsz
    by_cases hf : hd.toList = [110, 97, 109, 101] ∧ d = -1
    · have HF := hid (show (Tm.mk hd a d bs ty ks).free = [a] by rw [Tm.free, if_pos hf])
      obtain ⟨h1, h2⟩ := hf
      have e1 : (hd.toList == [110, 97, 109, 101]) = true := by simpa using h1
      have e2 : (d == -1) = true := by simpa using h2
      clear h1 h2
      go_enter Tryz.func28, Tryz.ntmps28
      go_wp2_with fail
      go_ret
      refine ⟨some ⟨w.heap.size, 0, none⟩, 1, ?_, ?_, ?_⟩
      · rw [HF.out]; rfl
      · rw [HF.out]
        exact ⟨rfl, Or.inr ⟨w.heap.size, 1, #[.string a], rfl, Nat.le_refl _, heap_alloc_new w _, Nat.le_refl _, by decide, rfl, rfl⟩⟩
      · exact (Below.refl _ _).alloc (Nat.le_refl _) _
    · have HF := hid (show (Tm.mk hd a d bs ty ks).free = Tm.frees ks by rw [Tm.free, if_neg hf])
      have hfc : (hd.toList == [110, 97, 109, 101]) = false ∨ ((hd.toList == [110, 97, 109, 101]) = true ∧ (d == -1) = false) := by
        cases e1 : hd.toList == [110, 97, 109, 101] with
        | false => exact Or.inl rfl
        | true =>
          refine Or.inr ⟨rfl, ?_⟩
          cases e2 : d == -1 with
          | false => rfl
          | true => exact absurd ⟨by simpa using e1, by simpa using e2⟩ hf
      clear hf
      obtain ⟨i0, hi0, hz0, hz1, hz2⟩ := info_parts Tryz.infoStr
      rcases hfc with e1 | ⟨e1, e2⟩
      all_goals
        go_enter Tryz.func28, Tryz.ntmps28
        go_wp2_with fail
        go_loopw [3, 28] (fun v u wr => ∃ (i k kc : Nat) (q : Option Addr), i ≤ kl ∧ u = .int .i64 (i : Int) ∧ v = .slice q k kc ∧ k ≤ 100000 ∧ wr.ownsRow w.heap.size 9 1 (.slice q k kc) k ((Tm.frees (ks.take i)).map Value.string) ∧ Below w.heap.size w wr ∧ Hid ((Tm.frees (ks.take i)).length = k)) (fun _ u _ => kl - (intOf u).toNat)
        case atStart => exact ⟨0, 0, 0, none, Nat.zero_le _, rfl, rfl, Nat.zero_le _, World.ownsRow_nil _ _ _ _, Below.refl _ _, hid rfl⟩
        case round =>
          obtain ⟨i, k, kc, q, hi, rfl, rfl, hk5, hown, hbel, hkk⟩ := hrel
          have hz := hbel.size
          have HOWN := hid hown
          have HBEL := hid hbel
          have hkw : Kept w0 wr := HK.out.below hbel (by omega)
          clear hown hbel
          by_cases hlt : i < kl
          · obtain ⟨t, hti⟩ : ∃ t, ks[i]? = some t := ⟨_, List.getElem?_eq_getElem (by rw [HKL.out]; exact hlt)⟩
            obtain ⟨g, rfl, _, hc⟩ := HKV.out i _ (ptrs_get A hlt)
            have hc' := hkw.cell hc
            have htk := tmsizes_take ks (i + 1)
            have hsn := tmsizes_snoc ks i t hti
            have hts : t.size ≤ 100000 := by omega
            have HC := hid (HIH.out i t hti hts wr hkw (by omega))
            have hfs := frees_snoc ks i t hti
            have hfl2 := frees_length (ks.take (i + 1))
            have hln : (Tm.frees (ks.take (i + 1))).length = k + t.free.length := by rw [hfs, List.length_append, hkk.out]
            have hkn : k + t.free.length ≤ 100000 := by omega
            have HFS := hid hfs
            have HLN := hid hln
            clear hc hti htk hsn hkw c0 c1 c2 c5 hfs hfl2 hln
            obtain ⟨F, hFF⟩ : ∃ F, t.free = F := ⟨_, rfl⟩
            rw [hFF] at HC HFS hkn HLN
            clear hFF
            go_wp2_with (first | (at_builtin; have _ := hb1; refine wpList_append_sv _ rfl _ _ 26 rfl w.heap.size 9 i0 (.string ByteArray.empty) 16 Tryz.underlying26 hi0 hz0 hz1 hz2 rfl _ _ _ _ rfl (ownsRow_under HOWN.out hb1) _ _ _ F rfl hsv (by unfold maxLen; omega) (by omega) (by have := hb1.size; omega) ?_; intro q2 k2 w2 ho2 hg2; have HO2 := hid ho2; have HG2 := hid hg2; clear ho2 hg2) | (go_at_call 28; refine HC.out.mono ?_; rintro e w1 hp; obtain ⟨q1, c1, rfl, hsv, hb1⟩ := hp.sv; clear hp))
            go_roundw
            case rel =>
              refine ⟨i + 1, k + F.length, k2, q2, by omega, by go_num, rfl, hkn, ?_, ?_, HLN⟩
              · rw [HFS.out, List.map_append]; exact HO2.out
              · exact (HBEL.out.trans (hb1.mono (by omega))).grown HG2.out (by have := hb1.size; omega) (fun k e => (HOWN.out.lt k e).1)
            case measure => simp [intOf]; omega
          · have hin : i = kl := by omega
            have HE := hid (show ks.take i = ks from List.take_of_length_le (by rw [HKL.out]; omega))
            clear hin
            go_wp2_with fail
            go_ret
            refine ⟨q, kc, ?_, ?_, HBEL.out⟩
            · have := hkk.out
              rw [HE.out] at this; rw [HF.out, this]; rfl
            · have := hkk.out
              have h2 := HOWN.out
              rw [HE.out] at this h2; rw [HF.out, this]; exact h2

end Go.Proofs.YtjennpiogdcngabGreatDoor

namespace Go.Proofs.YtjennpiogdcngabGreatDoor
open Go.RowKit

set_option maxHeartbeats 1000000 in
theorem specTermSort_any (s : ByteArray) (hs : s.size ≤ 400000000) (w : World) : Calls Tryz.prog 55 #[.string s] w fun e w' => e = .returned (.string (sortOf s)) ∧ Below w.heap.size w w' := by
  have HC := hid (fun W => l2Term_any s hs W)
  cases ht : termTree s with
  | none =>
    have HR := hid (termTree_no ht)
    have HT := hid ht
    clear ht
    go_enter Tryz.func55, Tryz.ntmps55
    go_wp2_with (go_at_call 24; refine (HC.out _).mono ?_; rintro e w1 hp; rw [HT.out] at hp; obtain ⟨pa, pp, pl, pc, rfl, hpl, hb1⟩ := hp.none; clear hp)
    go_ret
    exact ⟨ret_str (by rw [HR.out]; rfl), hb1.alloc hb1.size _⟩
  | some t =>
    obtain ⟨hpt, hso⟩ := termTree_sort ht
    have hwt := parse_wt hpt
    have hok := hid (parse_ok hpt)
    have HR := hid hso
    have HT := hid ht
    clear ht hpt hso
    go_enter Tryz.func55, Tryz.ntmps55
    go_wp2_with (first | (go_at_call 24; refine (HC.out _).mono ?_; rintro e w1 hp; rw [HT.out] at hp; obtain ⟨pa, pp, pl, pc, rfl, hb1, htr⟩ := hp.some; clear hp; have HD := hid (fun W hk hs => l2Sort_any htr hwt hok.out W hk hs); clear htr) | (go_at_call 52; refine (HD.out _ ((Kept.refl _).alloc (Nat.le_refl _) _) (by simp)).mono ?_; rintro e w2 ⟨rfl, hb2⟩))
    go_ret
    have s1 := hb1.size
    exact ⟨ret_str HR.out.symm, hb1.trans (((Below.refl _ _).alloc s1 _).trans (hb2.mono (by simp; omega)))⟩

end Go.Proofs.YtjennpiogdcngabGreatDoor

namespace Go.Proofs.YtjennpiogdcngabGreatDoor
open Go.RowKit

theorem dedB_nil {F : List ByteArray} : dedB [] F = [] ↔ F = [] := by
  constructor
  · intro h
    cases F with
    | nil => rfl
    | cons x F =>
      have key : ∀ (F L : List ByteArray), L ≠ [] → dedB L F ≠ [] := by
        intro F
        induction F with
        | nil => intro L hL; simpa [dedB] using hL
        | cons y F ih =>
          intro L hL
          rw [dedB]
          split
          · exact ih L hL
          · exact ih _ (by simp)
      rw [dedB, if_neg (by simp [hasB])] at h
      exact absurd h (key F _ (by simp))
  · intro h; subst h; rfl
set_option maxRecDepth 100000 in
set_option maxHeartbeats 2000000 in
theorem l2Closed_any {w0 : World} {S : Nat → Prop} {t : Tree} {h : Hd} (ht : TIn w0 S t h) (hwt : t.wt ≤ 12000) (hok : t.ok) (hwf : t.srt ≠ none) (w : World) (hk : Kept w0 w) (hw : w0.heap.size ≤ w.heap.size) :
    Calls Tryz.prog 25 #[.agg #[.string h.a, .slice h.p h.l h.c]] w fun e w' => e = .returned (.bool (decide ((t.free []).length = 0))) ∧ Below w.heap.size w w' := by
  obtain ⟨W2, hW2⟩ : ∃ W2, W2 = ((w.alloc (.cells #[.string h.a, .slice h.p h.l h.c] 40)).alloc (.cells #[] 9)).alloc (.cells #[] 9) := ⟨_, rfl⟩
  have hbw : Below w.heap.size w W2 := by rw [hW2]; exact (((Below.refl _ _).alloc (Nat.le_refl _) _).alloc (by simp) _).alloc (by simp; omega) _
  have hkW : Kept w0 W2 := hk.below hbw hw
  have hsW : W2.heap.size = w.heap.size + 3 := by rw [hW2]; simp
  have ho := own_empty ((w.alloc (.cells #[.string h.a, .slice h.p h.l h.c] 40)).alloc (.cells #[] 9)) w.heap.size (by simp; omega)
  rw [← hW2] at ho
  have hosz : ((w.alloc (.cells #[.string h.a, .slice h.p h.l h.c] 40)).alloc (.cells #[] 9)).heap.size = w.heap.size + 2 := by simp
  rw [hosz] at ho
  have HC := hid (l2Free_any ht hwt hok hwf [] [] (some ⟨w.heap.size + 1, 0, none⟩) (some ⟨w.heap.size + 2, 0, none⟩) 0 0 0 0 w.heap.size W2 hkW (by omega) hw (by omega) ⟨rfl, fun e => by simp at e, fun i s h => by simp at h⟩
    (fun g o e => by simp at e; obtain ⟨rfl, _⟩ := e; exact ⟨by simp [Value.ownBlock], by omega⟩) (by simpa using ho) (by omega) (by omega))
  have HW := hid hW2
  have HB := hid hbw
  have HD := hid (@dedB_nil (t.free []))
  obtain ⟨R, hR⟩ : ∃ R, dedB [] (t.free []) = R := ⟨_, rfl⟩
  rw [hR] at HC HD
  have hRe : (t.free []).length = 0 ↔ R.length = 0 := by
    rw [List.length_eq_zero_iff, List.length_eq_zero_iff]; exact HD.out.symm
  have HRE := hid (show decide ((t.free []).length = 0) = decide (R.length = 0) by rw [Bool.eq_iff_iff]; simp only [decide_eq_true_eq]; exact hRe)
  clear hW2 hbw hkW hsW ho hosz hR hRe ht hk
  go_enter Tryz.func25, Tryz.ntmps25
  go_wp2_with (go_at_call 60; rw [← HW.out]; refine HC.out.mono ?_; rintro e w1 hp; obtain ⟨q1, c1, rfl, ho1, hg1, _⟩ := hp; have HG := hid hg1; clear ho1 hg1)
  go_ret
  refine ⟨ret_bool ?_, HB.out.grown HG.out HB.out.size (fun k e => by simp [Value.ownBlock] at e; omega)⟩
  rw [HRE.out, Bool.eq_iff_iff]; simp

end Go.Proofs.YtjennpiogdcngabGreatDoor
