/- Environments: what two lists are, in memory, and by readEnv and look of the program. -/
import Derived.Test.YtnphopnhioogdaaDoorShapeF
import Derived.Test.YtnphopnhioogdaaDoorKindM
import Derived.Test.YtnphopnhioogdaaDoorTyR
import Derived.Test.YtnphopnhioogdaaDoorNames
import Derived.Test.YtnphopnhioogdaaDoorNodeP
namespace Go.Proofs.YtnphopnhioogdaaDoor
open Go.RowKit

/-- The names and types of an environment, the first one first. -/
def envL : List ByteArray → List ByteArray → Option (List (ByteArray × Ty))
  | n :: ns, t :: ts => match readTy t with
    | some ty => if ty.isVal = true ∧ nameB n.toList = true then (envL ns ts).map ((n, ty) :: ·) else none
    | none => none
  | _, _ => some []
def envOf (ns ts : List ByteArray) : Option (List (ByteArray × Ty)) := if ns.length = ts.length ∧ ns.length ≤ 8 then envL ns ts else none
theorem envL_step {ns ts : List ByteArray} {i : Nat} {n t : ByteArray} (hn : ns[i]? = some n) (ht : ts[i]? = some t) :
    envL (ns.drop i) (ts.drop i) = match readTy t with
      | some ty => if ty.isVal = true ∧ nameB n.toList = true then (envL (ns.drop (i + 1)) (ts.drop (i + 1))).map ((n, ty) :: ·) else none
      | none => none := by
  rw [drop_at hn, drop_at ht, envL]
/-- Frames in memory, the last name first. -/
inductive EIn (w : World) (S : Nat → Prop) : List (ByteArray × Ty) → Option Addr → Prop
  | nil : EIn w S [] none
  | cons (n : ByteArray) (ty : Ty) (rest : List (ByteArray × Ty)) (p : Option Addr) (b : Nat) (hS : S b) (hb : w.heap[b]? = some (.cells #[.string n, ty.val, .pointer p] 77 (0, 0))) (hr : EIn w S rest p) : EIn w S ((n, ty) :: rest) (some ⟨b, 0, none⟩)
theorem EIn.keep {w w' : World} {S S' : Nat → Prop} {l : List (ByteArray × Ty)} {p : Option Addr} (h : EIn w S l p) (hb : ∀ k, S k → k < w.heap.size → w'.heap[k]? = w.heap[k]?) (hS : ∀ k, S k → k < w.heap.size → S' k) : EIn w' S' l p := by
  induction h with
  | nil => exact .nil
  | cons n ty rest p b hS0 hb0 hr ih =>
    have hlt := lt_of_block hb0
    exact .cons n ty rest p b (hS b hS0 hlt) ((hb b hS0 hlt).trans hb0) ih
theorem EIn.under {w w' : World} {S : Nat → Prop} {l : List (ByteArray × Ty)} {p : Option Addr} (h : EIn w S l p) (hb : Below w.heap.size w w') : EIn w' S l p := h.keep (fun k _ hl => hb.block k hl) (fun _ hk _ => hk)
theorem cells_of_three {w : World} {b : Nat} {x y z : Value} {t : TypeId} (h : w.heap[b]? = some (.cells #[x, y, z] t (0, 0))) : w.cell? ⟨b, 0, none⟩ = some x ∧ w.cell? ⟨b, 1, none⟩ = some y ∧ w.cell? ⟨b, 2, none⟩ = some z := by
  simp [World.cell?, h]
/-- What readEnv leaves. -/
def EnvPost (o : Option (List (ByteArray × Ty))) (w : World) (e : Ending) (w' : World) : Prop :=
  Below w.heap.size w w' ∧ match o with
    | some l => ∃ p, e = .returned (.tuple #[.pointer p, .bool true]) ∧ EIn w' (fun k => w.heap.size ≤ k) l.reverse p
    | none => e = .returned (.tuple #[.pointer none, .bool false])
theorem EnvPost.none {w w' : World} {e : Ending} (h : EnvPost Option.none w e w') : e = .returned (.tuple #[.pointer Option.none, .bool false]) ∧ Below w.heap.size w w' := ⟨h.2, h.1⟩
theorem EnvPost.some {w w' : World} {e : Ending} {l : List (ByteArray × Ty)} (h : EnvPost (Option.some l) w e w') : ∃ p, e = .returned (.tuple #[.pointer p, .bool true]) ∧ Below w.heap.size w w' ∧ EIn w' (fun k => w.heap.size ≤ k) l.reverse p :=
  let ⟨hb, p, he, hn⟩ := h; ⟨p, he, hb, hn⟩
theorem envPost_of {o : Option (List (ByteArray × Ty))} {w w' : World} {e : Ending} (l : List (ByteArray × Ty)) (ho : o = some l) (p : Option Addr) (he : e = .returned (.tuple #[.pointer p, .bool true])) (hn : EIn w' (fun k => w.heap.size ≤ k) l.reverse p) (hb : Below w.heap.size w w') : EnvPost o w e w' := by
  subst ho; exact ⟨hb, p, he, hn⟩
theorem envPost_no {o : Option (List (ByteArray × Ty))} {w w' : World} {e : Ending} (ho : o = none) (he : e = .returned (.tuple #[.pointer none, .bool false])) (hb : Below w.heap.size w w') : EnvPost o w e w' := by
  subst ho; exact ⟨hb, he⟩
theorem strs_get {l : List ByteArray} {i : Nat} {x : ByteArray} (h : l[i]? = some x) : (l.map Value.string)[i]? = some (.string x) := by simp [h]

set_option maxRecDepth 100000 in
set_option maxHeartbeats 4000000 in
theorem readEnv_any (ns ts : List ByteArray) (p q : Option Addr) (n m c d : Nat) (w : World) (hn : ns.length = n) (hm : ts.length = m) (hnb : n ≤ 400000000) (hmb : m ≤ 400000000) (hp : Vals w p (ns.map Value.string)) (hq : Vals w q (ts.map Value.string)) (hns : ∀ s ∈ ns, s.size ≤ 400000000) (hts : ∀ s ∈ ts, s.size ≤ 400000000) :
    Calls Tryd.prog 36 #[.slice p n c, .slice q m d] w (EnvPost (envOf ns ts) w) := by
  by_cases hnm : n = m
  · subst hnm
    by_cases h8 : n ≤ 8
    · have HE := hid (show envOf ns ts = envL ns ts by rw [envOf, if_pos ⟨by omega, by omega⟩])
      have hne : ((n : Int) != (n : Int)) = false := by simp
      have hsv : (strV.toList == [118, 97, 108, 117, 101]) = true := by rw [strV_toList]; rfl
      have hsc : (strC.toList == [118, 97, 108, 117, 101]) = false := by rw [strC_toList]; rfl
      have HN := hid hn
      have HM := hid hm
      have HP := hid hp
      have HQ := hid hq
      have HNS := hid hns
      have HTS := hid hts
      clear hn hm hp hq hns hts
      go_enter Tryd.func36, Tryd.ntmps36
      go_wp2_with fail
      go_loopw [6, 23] (fun v u wr => ∃ (i : Nat) (p : Option Addr) (acc : List (ByteArray × Ty)), i ≤ n ∧ u = .int .i64 (i : Int) ∧ v = .pointer p ∧ EIn wr (fun k => w.heap.size ≤ k) acc p ∧ Below w.heap.size w wr ∧ Hid (envL ns ts = (envL (ns.drop i) (ts.drop i)).map (acc.reverse ++ ·))) (fun _ u _ => n - (intOf u).toNat)
      case atStart => exact ⟨0, none, [], Nat.zero_le _, rfl, rfl, .nil, Below.refl _ _, hid (by simp)⟩
      case round =>
        obtain ⟨i, pe, acc, hi, rfl, rfl, hein, hbel, hL⟩ := hrel
        have hz := hbel.size
        have HEIN := hid hein
        clear hein
        by_cases hlt : i < n
        · obtain ⟨x, hx⟩ : ∃ x, ns[i]? = some x := ⟨_, List.getElem?_eq_getElem (by rw [HN.out]; exact hlt)⟩
          obtain ⟨y, hy⟩ : ∃ y, ts[i]? = some y := ⟨_, List.getElem?_eq_getElem (by rw [HM.out]; exact hlt)⟩
          obtain ⟨b1, o1, rfl, hc1⟩ := HP.out i _ (strs_get hx)
          obtain ⟨b2, o2, rfl, hc2⟩ := HQ.out i _ (strs_get hy)
          have e1 := (hbel.cell (p := ⟨b1, o1 + i, none⟩) (World.block_lt_of_cell? w _ hc1)).trans hc1
          have e2 := (hbel.cell (p := ⟨b2, o2 + i, none⟩) (World.block_lt_of_cell? w _ hc2)).trans hc2
          have hxs := HNS.out x (List.mem_of_getElem? hx)
          have hys := HTS.out y (List.mem_of_getElem? hy)
          have hst := envL_step hx hy
          have HRT := hid (fun W => readType_any y hys W)
          have HNM := hid (fun W => isName_any x hxs W)
          clear hc1 hc2 hx hy
          cases hr : readTy y with
          | none =>
            rw [hr] at hst HRT
            have HL2 := hid (show envOf ns ts = none by rw [HE.out, hL.out, hst]; rfl)
            clear hst hL hr
            go_wp2_with (go_at_call 57; refine (HRT.out _).mono ?_; rintro e w1 hp; obtain ⟨rfl, hb1⟩ := hp.none; clear hp)
            go_ret2
            exact envPost_no HL2.out rfl (hbel.trans (hb1.mono hz))
          | some ty =>
            rw [hr] at hst HRT
            simp only at hst
            obtain ⟨kn, kv, kf, hkv, hke, hkm, hkc⟩ := kindM ty
            have HKV := hid hkv
            cases hiv : ty.isVal with
            | false =>
              have HKC := hid (fun W => (show Calls Tryd.prog kf #[kv] W fun e w' => e = .returned (.string strC) ∧ Below W.heap.size W w' from by have := hkc W; rw [Ty.kindS, hiv] at this; exact this))
              have HL2 := hid (show envOf ns ts = none by rw [HE.out, hL.out, hst]; simp [hiv])
              clear hst hL hr hkc hkv hiv
              go_wp2_with (first | (go_at_fn kf; refine (HKC.out _).mono ?_; rintro e w2 ⟨rfl, hb2⟩) | (go_at_call 57; refine (HRT.out _).mono ?_; rintro e w1 hp; obtain ⟨he1, hb1⟩ := hp.some; rw [HKV.out] at he1; subst he1; clear hp))
              go_ret2
              exact envPost_no HL2.out rfl (hbel.trans ((hb1.trans (hb2.mono hb1.size)).mono hz))
            | true =>
              have HKC := hid (fun W => (show Calls Tryd.prog kf #[kv] W fun e w' => e = .returned (.string strV) ∧ Below W.heap.size W w' from by have := hkc W; rw [Ty.kindS, hiv] at this; exact this))
              cases hnb2 : nameB x.toList with
              | false =>
                rw [hnb2] at HNM
                have HL2 := hid (show envOf ns ts = none by rw [HE.out, hL.out, hst]; simp [hnb2])
                clear hst hL hr hkc hkv hiv hnb2
                go_wp2_with (first | (go_at_call 53; have _ := hb2; refine (HNM.out _).mono ?_; rintro e w3 ⟨rfl, hb3⟩) | (go_at_fn kf; refine (HKC.out _).mono ?_; rintro e w2 ⟨rfl, hb2⟩) | (go_at_call 57; refine (HRT.out _).mono ?_; rintro e w1 hp; obtain ⟨he1, hb1⟩ := hp.some; rw [HKV.out] at he1; subst he1; clear hp))
                go_ret2
                exact envPost_no HL2.out rfl (hbel.trans (((hb1.trans (hb2.mono hb1.size)).trans (hb3.mono (Nat.le_trans hb1.size hb2.size))).mono hz))
              | true =>
                rw [hnb2] at HNM
                rw [hiv, hnb2] at hst
                simp only [and_self, if_true] at hst
                have HL2 := hid (show envL ns ts = (envL (ns.drop (i + 1)) (ts.drop (i + 1))).map (((x, ty) :: acc).reverse ++ ·) by
                  rw [hL.out, hst, Option.map_map]; congr 1; funext l; simp)
                have HTV := hid hkv
                clear hst hL hr hkc hkv hiv hnb2
                go_wp2_with (first | (go_at_call 53; have _ := hb2; refine (HNM.out _).mono ?_; rintro e w3 ⟨rfl, hb3⟩) | (go_at_fn kf; refine (HKC.out _).mono ?_; rintro e w2 ⟨rfl, hb2⟩) | (go_at_call 57; refine (HRT.out _).mono ?_; rintro e w1 hp; obtain ⟨he1, hb1⟩ := hp.some; rw [HKV.out] at he1; subst he1; clear hp))
                go_roundw
                case rel =>
                  have hb123 := (hb1.trans (hb2.mono hb1.size)).trans (hb3.mono (Nat.le_trans hb1.size hb2.size))
                  have h3 := hb123.size
                  refine ⟨i + 1, some ⟨w3.heap.size, 0, none⟩, (x, ty) :: acc, by omega, by go_num, rfl, ?_, (hbel.trans (hb123.mono hz)).alloc (by omega) _, HL2⟩
                  refine .cons x ty acc pe w3.heap.size (by omega) (by rw [HTV.out]; exact heap_new _ _ _ rfl) ?_
                  exact HEIN.out.keep (fun k _ hl => (heap_alloc_old _ _ (by omega)).trans (hb123.block k hl)) (fun _ hk _ => hk)
                case measure => simp [intOf]; omega
        · have hin : i = n := by omega
          have HL2 := hid (show envOf ns ts = some acc.reverse by
            rw [HE.out, hL.out, List.drop_of_length_le (l := ns) (by rw [HN.out]; omega)]; simp [envL])
          clear hL hin
          go_wp2_with fail
          go_ret2
          exact envPost_of _ HL2.out pe rfl (by rw [List.reverse_reverse]; exact HEIN.out) hbel
    · have HE := hid (show envOf ns ts = none by rw [envOf, if_neg (fun h => by omega)])
      have h9 : 8 < n := by omega
      have hne : ((n : Int) != (n : Int)) = false := by simp
      clear hn hm hp hq hns hts h8
      go_enter Tryd.func36, Tryd.ntmps36
      go_wp2_with fail
      go_ret2
      exact envPost_no HE.out rfl (Below.refl _ _)
  · have HE := hid (show envOf ns ts = none by rw [envOf, if_neg (fun h => by omega)])
    have hne : ((n : Int) != (m : Int)) = true := by simp; omega
    clear hn hm hp hq hns hts hnm
    go_enter Tryd.func36, Tryd.ntmps36
    go_wp2_with fail
    go_ret2
    exact envPost_no HE.out rfl (Below.refl _ _)

/-- The type of a name, the last one first. -/
def lookR (s : List UInt8) : List (ByteArray × Ty) → Option Ty
  | [] => none
  | (n, t) :: l => if n.toList = s then some t else lookR s l
theorem EIn.len {w : World} {S S' : Nat → Prop} {l l' : List (ByteArray × Ty)} {p : Option Addr} (h : EIn w S l p) (h' : EIn w S' l' p) : l.length = l'.length := by
  induction h generalizing l' with
  | nil => cases h' with | nil => rfl
  | cons n ty rest p b hS hb hr ih =>
    cases h' with
    | cons n2 ty2 rest2 p2 b2 hS2 hb2 hr2 =>
      rw [hb] at hb2
      simp only [Option.some.injEq, Obj.cells.injEq, Array.mk.injEq, List.cons.injEq, Value.pointer.injEq, and_true] at hb2
      obtain ⟨_, _, rfl⟩ := hb2
      rw [List.length_cons, List.length_cons, ih hr2]
open Classical in
/-- How many frames there are from a pointer on. -/
noncomputable def eDepth (w : World) (S : Nat → Prop) (v : Value) : Nat := if h : ∃ (l : List (ByteArray × Ty)) (p : Option Addr), v = .pointer p ∧ EIn w S l p then h.choose.length else 0
theorem eDepth_eq {w : World} {S : Nat → Prop} {l : List (ByteArray × Ty)} {p : Option Addr} (h : EIn w S l p) : eDepth w S (.pointer p) = l.length := by
  have hx : ∃ (l : List (ByteArray × Ty)) (q : Option Addr), Value.pointer p = .pointer q ∧ EIn w S l q := ⟨l, p, rfl, h⟩
  rw [eDepth, dif_pos hx]
  obtain ⟨q, hq, h2⟩ := hx.choose_spec
  simp only [Value.pointer.injEq] at hq
  subst hq
  exact h2.len h
set_option maxRecDepth 100000 in
set_option maxHeartbeats 2000000 in
theorem look_any (s : ByteArray) {w0 : World} {S : Nat → Prop} {l : List (ByteArray × Ty)} {p : Option Addr} (hl : EIn w0 S l p) (w : World) (hk : Kept w0 w) :
    Calls Tryd.prog 39 #[.pointer p, .string s] w fun e w' => TyPost (lookR s.toList l) w e w' ∧ w = w' := by
  have HS := hid hk
  have HLL := hid hl
  clear hl hk
  go_enter Tryd.func39, Tryd.ntmps39
  go_wp2_with fail
  go_loop [6] (fun u => ∃ (l2 : List (ByteArray × Ty)) (p2 : Option Addr), u = .pointer p2 ∧ EIn w0 S l2 p2 ∧ Hid (lookR s.toList l = lookR s.toList l2)) (fun u => eDepth w0 S u)
  case atStart => exact ⟨l, p, rfl, HLL.out, hid rfl⟩
  case round =>
    obtain ⟨l2, p2, rfl, hl2, hL⟩ := hrel
    have hdep := eDepth_eq hl2
    have HDEP := hid hdep
    clear hdep
    cases hl2 with
    | nil =>
      have HL2 := hid (show lookR s.toList l = none from hL.out)
      clear hL
      go_wp2_with fail
      go_ret2
      exact ⟨by rw [HL2.out]; exact ⟨rfl, Below.refl _ _⟩, rfl⟩
    | cons n ty rest p3 b hS hb hr =>
      have hb2 := (HS.out b (lt_of_block hb)).trans hb
      have c := cells_of_three hb2
      obtain ⟨tn, tv, htv⟩ := ty.val_iface
      have HTV := hid htv
      rw [htv] at c
      have c0 := c.1
      have c1 := c.2.1
      have c2 := c.2.2
      have HR := hid hr
      have HL := hid hL.out
      clear hb hb2 c hr htv hL
      cases hq : n.toList == s.toList with
      | true =>
        have HL2 := hid (show lookR s.toList l = some ty by rw [HL.out, lookR, if_pos (by simpa using hq)])
        clear HL
        go_wp2_with fail
        go_ret2
        refine ⟨?_, rfl⟩
        rw [HL2.out]
        refine ⟨?_, Below.refl _ _⟩
        show _ = Ending.returned (.tuple #[ty.val, .bool true])
        rw [HTV.out]; rfl
      | false =>
        have HL2 := hid (show lookR s.toList l = lookR s.toList rest by rw [HL.out, lookR, if_neg (by simpa using hq)])
        clear HL
        go_wp2_with fail
        go_round
        case rel => exact ⟨rest, p3, rfl, HR.out, HL2⟩
        case measure =>
          rw [HDEP.out, eDepth_eq HR.out]; simp
end Go.Proofs.YtnphopnhioogdaaDoor
