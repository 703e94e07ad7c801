/- Merged: EnvP, TypP, FltP, WithT, BndT, FromT, FltT, EnvS. -/
import Derived.Test.YtfogjomebcponaaGreatDoorZG22
import Derived.Test.YtfogjomebcponaaGreatDoorZGSKindM
import Derived.Test.YtfogjomebcponaaGreatDoorZG18
import Derived.Test.YtfogjomebcponaaGreatDoorZG13
namespace Go.Proofs.YtfogjomebcponaaGreatDoor
open Go.RowKit
set_option maxRecDepth 100000
set_option maxHeartbeats 4000000
def envL : List ByteArray → List ByteArray → Option (List (ByteArray × Ty))
 | n :: ns, t :: ts => match readTy t with
  | some ty => if ty.isVal = true ∧ nameB n.toList = true then (envL ns ts).map ((n, ty) :: ·) else none
  | none => none
 | _, _ => some []
def envOf (ns ts : List ByteArray) : Option (List (ByteArray × Ty)) := if ns.length = ts.length ∧ ns.length ≤ 8 then envL ns ts else none
theorem envL_step {ns ts : List ByteArray} {i : Nat} {n t : ByteArray} (hn : ns[i]? = some n) (ht : ts[i]? = some t) :
    envL (ns.drop i) (ts.drop i) = match readTy t with
     | some ty => if ty.isVal = true ∧ nameB n.toList = true then (envL (ns.drop (i + 1)) (ts.drop (i + 1))).map ((n, ty) :: ·) else none
     | none => none := by
 rw [dro hn, dro ht, envL]
inductive EIn (w : World) (S : Nat → Prop) : List (ByteArray × Ty) → Option Addr → Prop
 | nil : EIn w S [] none
 | cons (n : ByteArray) (ty : Ty) (rest : List (ByteArray × Ty)) (p : Option Addr) (b : Nat) (hS : S b) (hb : w.heap[b]? = some (.cells #[.string n, ty.val, .pointer p] 88 (0, 0))) (hr : EIn w S rest p) : EIn w S ((n, ty) :: rest) (some ⟨b, 0, none⟩)
theorem EIn.keep {w w' : World} {S S' : Nat → Prop} {l : List (ByteArray × Ty)} {p : Option Addr} (h : EIn w S l p) (hb : ∀ k, S k → k < w.heap.size → w'.heap[k]? = w.heap[k]?) (hS : ∀ k, S k → k < w.heap.size → S' k) : EIn w' S' l p := by
 induction h with
 | nil => exact .nil
 | cons n ty rest p b hS0 hb0 hr ih =>
  have hlt := lt_of_block hb0
  exact .cons n ty rest p b (hS b hS0 hlt) ((hb b hS0 hlt).trans hb0) ih
theorem EIn.under {w w' : World} {S : Nat → Prop} {l : List (ByteArray × Ty)} {p : Option Addr} (h : EIn w S l p) (hb : Below w.heap.size w w') : EIn w' S l p := h.keep (fun k _ hl => hb.block k hl) (fun _ hk _ => hk)
theorem cells_of_three {w : World} {b : Nat} {x y z : Value} {t : TypeId} (h : w.heap[b]? = some (.cells #[x, y, z] t (0, 0))) : w.cell? ⟨b, 0, none⟩ = some x ∧ w.cell? ⟨b, 1, none⟩ = some y ∧ w.cell? ⟨b, 2, none⟩ = some z := by
 simp [World.cell?, h]
def EnvPost (o : Option (List (ByteArray × Ty))) (w : World) (e : Ending) (w' : World) : Prop :=
 Below w.heap.size w w' ∧ match o with
  | some l => ∃ p, e = .returned (.tuple #[.pointer p, .bool true]) ∧ EIn w' (fun k => w.heap.size ≤ k) l.reverse p
  | none => e = .returned (.tuple #[.pointer none, .bool false])
theorem EnvPost.none {w w' : World} {e : Ending} (h : EnvPost Option.none w e w') : e = .returned (.tuple #[.pointer Option.none, .bool false]) ∧ Below w.heap.size w w' := ⟨h.2, h.1⟩
theorem EnvPost.some {w w' : World} {e : Ending} {l : List (ByteArray × Ty)} (h : EnvPost (Option.some l) w e w') : ∃ p, e = .returned (.tuple #[.pointer p, .bool true]) ∧ Below w.heap.size w w' ∧ EIn w' (fun k => w.heap.size ≤ k) l.reverse p :=
 let ⟨hb, p, he, hn⟩ := h; ⟨p, he, hb, hn⟩
theorem envPost_of {o : Option (List (ByteArray × Ty))} {w w' : World} {e : Ending} (l : List (ByteArray × Ty)) (ho : o = some l) (p : Option Addr) (he : e = .returned (.tuple #[.pointer p, .bool true])) (hn : EIn w' (fun k => w.heap.size ≤ k) l.reverse p) (hb : Below w.heap.size w w') : EnvPost o w e w' := by
 subst ho; exact ⟨hb, p, he, hn⟩
theorem envPost_no {o : Option (List (ByteArray × Ty))} {w w' : World} {e : Ending} (ho : o = none) (he : e = .returned (.tuple #[.pointer none, .bool false])) (hb : Below w.heap.size w w') : EnvPost o w e w' := by
 subst ho; exact ⟨hb, he⟩
theorem strs_get {l : List ByteArray} {i : Nat} {x : ByteArray} (h : l[i]? = some x) : (l.map Value.string)[i]? = some (.string x) := by simp [h]
theorem readEnv_any (ns ts : List ByteArray) (p q : Option Addr) (n m c d : Nat) (w : World) (hn : ns.length = n) (hm : ts.length = m) (hnb : n ≤ 400000000) (hmb : m ≤ 400000000) (hp : Vals w p (ns.map Value.string)) (hq : Vals w q (ts.map Value.string)) (hns : ∀ s ∈ ns, s.size ≤ 400000000) (hts : ∀ s ∈ ts, s.size ≤ 400000000) :
    Calls Tryz.prog 28 #[.slice p n c, .slice q m d] w (EnvPost (envOf ns ts) w) := by
 by_cases hnm : n = m
 ·subst hnm
  by_cases h8 : n ≤ 8
  ·have HE := hid (show envOf ns ts = envL ns ts by rw [envOf, if_pos ⟨by omega, by omega⟩])
   have hne : ((n : Int) != (n : Int)) = false := by simp
   have hsv : (strV.toList == [118, 97, 108, 117, 101]) = true := by rw [stv]; rfl
   have hsc : (strC.toList == [118, 97, 108, 117, 101]) = false := by rw [stc]; rfl
   have HN := hid hn
   have HM := hid hm
   have HP := hid hp
   have HQ := hid hq
   have HNS := hid hns
   have HTS := hid hts
   clear hn hm hp hq hns hts
   go_enter Tryz.func28, Tryz.ntmps28
   go_wp2_with fail
   go_loopw [6, 23] (fun v u wr => ∃ (i : Nat) (p : Option Addr) (acc : List (ByteArray × Ty)), i ≤ n ∧ u = .int .i64 (i : Int) ∧ v = .pointer p ∧ EIn wr (fun k => w.heap.size ≤ k) acc p ∧ Below w.heap.size w wr ∧ Hid (envL ns ts = (envL (ns.drop i) (ts.drop i)).map (acc.reverse ++ ·))) (fun _ u _ => n - (intOf u).toNat)
   case atStart => exact ⟨0, none, [], Nat.zero_le _, rfl, rfl, .nil, Below.refl _ _, hid (by simp)⟩
   case round =>
    obtain ⟨i, pe, acc, hi, rfl, rfl, hein, hbel, hL⟩ := hrel
    have hz := hbel.size
    have HEIN := hid hein
    clear hein
    by_cases hlt : i < n
    ·obtain ⟨x, hx⟩ : ∃ x, ns[i]? = some x := ⟨_, List.getElem?_eq_getElem (by rw [HN.out]; exact hlt)⟩
     obtain ⟨y, hy⟩ : ∃ y, ts[i]? = some y := ⟨_, List.getElem?_eq_getElem (by rw [HM.out]; exact hlt)⟩
     obtain ⟨b1, o1, rfl, hc1⟩ := HP.out i _ (strs_get hx)
     obtain ⟨b2, o2, rfl, hc2⟩ := HQ.out i _ (strs_get hy)
     have e1 := (hbel.cell (p := ⟨b1, o1 + i, none⟩) (World.block_lt_of_cell? w _ hc1)).trans hc1
     have e2 := (hbel.cell (p := ⟨b2, o2 + i, none⟩) (World.block_lt_of_cell? w _ hc2)).trans hc2
     have hxs := HNS.out x (List.mem_of_getElem? hx)
     have hys := HTS.out y (List.mem_of_getElem? hy)
     have hst := envL_step hx hy
     have HRT := hid (fun W => readType_any y hys W)
     have HNM := hid (fun W => isName_any x hxs W)
     clear hc1 hc2 hx hy
     cases hr : readTy y with
     | none =>
      rw [hr] at hst HRT
      have HL2 := hid (show envOf ns ts = none by rw [HE.out, hL.out, hst]; rfl)
      clear hst hL hr
      go_wp2_with (go_at_call 48; refine (HRT.out _).mono ?_; rintro e w1 hp; obtain ⟨rfl, hb1⟩ := hp.none; clear hp)
      go_ret2
      exact envPost_no HL2.out rfl (hbel.trans (hb1.mono hz))
     | some ty =>
      rw [hr] at hst HRT
      simp only at hst
      obtain ⟨kn, kv, kf, hkv, hke, hkm, hkc⟩ := kindM ty
      have HKV := hid hkv
      cases hiv : ty.isVal with
      | false =>
       have HKC := hid (fun W => (show Calls Tryz.prog kf #[kv] W fun e w' => e = .returned (.string strC) ∧ Below W.heap.size W w' from by have := hkc W; rw [Ty.kindS, hiv] at this; exact this))
       have HL2 := hid (show envOf ns ts = none by rw [HE.out, hL.out, hst]; simp [hiv])
       clear hst hL hr hkc hkv hiv
       go_wp2_with (first | (go_at_fn kf; refine (HKC.out _).mono ?_; rintro e w2 ⟨rfl, hb2⟩) | (go_at_call 48; refine (HRT.out _).mono ?_; rintro e w1 hp; obtain ⟨he1, hb1⟩ := hp.some; rw [HKV.out] at he1; subst he1; clear hp))
       go_ret2
       exact envPost_no HL2.out rfl (hbel.trans ((hb1.trans (hb2.mono hb1.size)).mono hz))
      | true =>
       have HKC := hid (fun W => (show Calls Tryz.prog kf #[kv] W fun e w' => e = .returned (.string strV) ∧ Below W.heap.size W w' from by have := hkc W; rw [Ty.kindS, hiv] at this; exact this))
       cases hnb2 : nameB x.toList with
       | false =>
        rw [hnb2] at HNM
        have HL2 := hid (show envOf ns ts = none by rw [HE.out, hL.out, hst]; simp [hnb2])
        clear hst hL hr hkc hkv hiv hnb2
        go_wp2_with (first | (go_at_call 51; have _ := hb2; refine (HNM.out _).mono ?_; rintro e w3 ⟨rfl, hb3⟩) | (go_at_fn kf; refine (HKC.out _).mono ?_; rintro e w2 ⟨rfl, hb2⟩) | (go_at_call 48; refine (HRT.out _).mono ?_; rintro e w1 hp; obtain ⟨he1, hb1⟩ := hp.some; rw [HKV.out] at he1; subst he1; clear hp))
        go_ret2
        exact envPost_no HL2.out rfl (hbel.trans (((hb1.trans (hb2.mono hb1.size)).trans (hb3.mono (Nat.le_trans hb1.size hb2.size))).mono hz))
       | true =>
        rw [hnb2] at HNM
        rw [hiv, hnb2] at hst
        simp only [and_self, if_true] at hst
        have HL2 := hid (show envL ns ts = (envL (ns.drop (i + 1)) (ts.drop (i + 1))).map (((x, ty) :: acc).reverse ++ ·) by
         rw [hL.out, hst, Option.map_map]; congr 1; funext l; simp)
        have HTV := hid hkv
        clear hst hL hr hkc hkv hiv hnb2
        go_wp2_with (first | (go_at_call 51; have _ := hb2; refine (HNM.out _).mono ?_; rintro e w3 ⟨rfl, hb3⟩) | (go_at_fn kf; refine (HKC.out _).mono ?_; rintro e w2 ⟨rfl, hb2⟩) | (go_at_call 48; refine (HRT.out _).mono ?_; rintro e w1 hp; obtain ⟨he1, hb1⟩ := hp.some; rw [HKV.out] at he1; subst he1; clear hp))
        go_roundw
        case rel =>
         have hb123 := (hb1.trans (hb2.mono hb1.size)).trans (hb3.mono (Nat.le_trans hb1.size hb2.size))
         have h3 := hb123.size
         refine ⟨i + 1, some ⟨w3.heap.size, 0, none⟩, (x, ty) :: acc, by omega, by go_num, rfl, ?_, (hbel.trans (hb123.mono hz)).alloc (by omega) _, HL2⟩
         refine .cons x ty acc pe w3.heap.size (by omega) (by rw [HTV.out]; exact hea _ _ _ rfl) ?_
         exact HEIN.out.keep (fun k _ hl => (heap_alloc_old _ _ (by omega)).trans (hb123.block k hl)) (fun _ hk _ => hk)
        case measure => simp [intOf]; omega
    ·have hin : i = n := by omega
     have HL2 := hid (show envOf ns ts = some acc.reverse by
      rw [HE.out, hL.out, List.drop_of_length_le (l := ns) (by rw [HN.out]; omega)]; simp [envL])
     clear hL hin
     go_wp2_with fail
     go_ret2
     exact envPost_of _ HL2.out pe rfl (by rw [List.reverse_reverse]; exact HEIN.out) hbel
  ·have HE := hid (show envOf ns ts = none by rw [envOf, if_neg (fun h => by omega)])
   have h9 : 8 < n := by omega
   have hne : ((n : Int) != (n : Int)) = false := by simp
   clear hn hm hp hq hns hts h8
   go_enter Tryz.func28, Tryz.ntmps28
   go_wp2_with fail
   go_ret2
   exact envPost_no HE.out rfl (Below.refl _ _)
 ·have HE := hid (show envOf ns ts = none by rw [envOf, if_neg (fun h => by omega)])
  have hne : ((n : Int) != (m : Int)) = true := by simp; omega
  clear hn hm hp hq hns hts hnm
  go_enter Tryz.func28, Tryz.ntmps28
  go_wp2_with fail
  go_ret2
  exact envPost_no HE.out rfl (Below.refl _ _)
def lookR (s : List UInt8) : List (ByteArray × Ty) → Option Ty
 | [] => none
 | (n, t) :: l => if n.toList = s then some t else lookR s l
theorem EIn.len {w : World} {S S' : Nat → Prop} {l l' : List (ByteArray × Ty)} {p : Option Addr} (h : EIn w S l p) (h' : EIn w S' l' p) : l.length = l'.length := by
 induction h generalizing l' with
 | nil => cases h' with | nil => rfl
 | cons n ty rest p b hS hb hr ih =>
  cases h' with
  | cons n2 ty2 rest2 p2 b2 hS2 hb2 hr2 =>
   rw [hb] at hb2
   simp only [Option.some.injEq, Obj.cells.injEq, Array.mk.injEq, List.cons.injEq, Value.pointer.injEq, and_true] at hb2
   obtain ⟨_, _, rfl⟩ := hb2
   rw [List.length_cons, List.length_cons, ih hr2]
open Classical in
noncomputable def eDepth (w : World) (S : Nat → Prop) (v : Value) : Nat := if h : ∃ (l : List (ByteArray × Ty)) (p : Option Addr), v = .pointer p ∧ EIn w S l p then h.choose.length else 0
theorem eDepth_eq {w : World} {S : Nat → Prop} {l : List (ByteArray × Ty)} {p : Option Addr} (h : EIn w S l p) : eDepth w S (.pointer p) = l.length := by
 have hx : ∃ (l : List (ByteArray × Ty)) (q : Option Addr), Value.pointer p = .pointer q ∧ EIn w S l q := ⟨l, p, rfl, h⟩
 rw [eDepth, dif_pos hx]
 obtain ⟨q, hq, h2⟩ := hx.choose_spec
 simp only [Value.pointer.injEq] at hq
 subst hq
 exact h2.len h
theorem look_any (s : ByteArray) {w0 : World} {S : Nat → Prop} {l : List (ByteArray × Ty)} {p : Option Addr} (hl : EIn w0 S l p) (w : World) (hk : Kept w0 w) :
    Calls Tryz.prog 47 #[.pointer p, .string s] w fun e w' => TyPost (lookR s.toList l) w e w' ∧ w = w' := by
 have HS := hid hk
 have HLL := hid hl
 clear hl hk
 go_enter Tryz.func47, Tryz.ntmps47
 go_wp2_with fail
 go_loop [6] (fun u => ∃ (l2 : List (ByteArray × Ty)) (p2 : Option Addr), u = .pointer p2 ∧ EIn w0 S l2 p2 ∧ Hid (lookR s.toList l = lookR s.toList l2)) (fun u => eDepth w0 S u)
 case atStart => exact ⟨l, p, rfl, HLL.out, hid rfl⟩
 case round =>
  obtain ⟨l2, p2, rfl, hl2, hL⟩ := hrel
  have hdep := eDepth_eq hl2
  have HDEP := hid hdep
  clear hdep
  cases hl2 with
  | nil =>
   have HL2 := hid (show lookR s.toList l = none from hL.out)
   clear hL
   go_wp2_with fail
   go_ret2
   exact ⟨by rw [HL2.out]; exact ⟨rfl, Below.refl _ _⟩, rfl⟩
  | cons n ty rest p3 b hS hb hr =>
   have hb2 := (HS.out b (lt_of_block hb)).trans hb
   have c := cells_of_three hb2
   obtain ⟨tn, tv, htv⟩ := ty.val_iface
   have HTV := hid htv
   rw [htv] at c
   have c0 := c.1
   have c1 := c.2.1
   have c2 := c.2.2
   have HR := hid hr
   have HL := hid hL.out
   clear hb hb2 c hr htv hL
   cases hq : n.toList == s.toList with
   | true =>
    have HL2 := hid (show lookR s.toList l = some ty by rw [HL.out, lookR, if_pos (by simpa using hq)])
    clear HL
    go_wp2_with fail
    go_ret2
    refine ⟨?_, rfl⟩
    rw [HL2.out]
    refine ⟨?_, Below.refl _ _⟩
    show _ = Ending.returned (.tuple #[ty.val, .bool true])
    rw [HTV.out]; rfl
   | false =>
    have HL2 := hid (show lookR s.toList l = lookR s.toList rest by rw [HL.out, lookR, if_neg (by simpa using hq)])
    clear HL
    go_wp2_with fail
    go_round
    case rel => exact ⟨rest, p3, rfl, HR.out, HL2⟩
    case measure =>
     rw [HDEP.out, eDepth_eq HR.out]; simp
def enw (env : List (ByteArray × Ty)) (bs : List ByteArray) (ts : List Ty) : List (ByteArray × Ty) := (bs.zip ts).reverse ++ env
def bndT (h : List UInt8) (ty first : Option Ty) : Option (List Ty) :=
 if h = [116, 111] then (match first with
  | some (.ret a) => some [a]
  | _ => none)
 else if h = [115, 112, 108, 105, 116] then (match first with
  | some (.pair a b) => some [a, b]
  | _ => none)
 else if h = [108, 97, 109] then ty.map ([·])
 else if h = [103, 101, 116] then some [.bit]
 else some []
def joinT (h : List UInt8) (ty : Option Ty) (a : List UInt8) (env : List (ByteArray × Ty)) (p0 p1 p2 : Option Ty) : Option Ty :=
 if h = [110, 97, 109, 101] then lookR a env
 else if h = [98, 105, 116] then some .bit
 else if h = [112, 97, 105, 114] then (match p0, p1 with
  | some x, some y => some (.pair x y)
  | _, _ => none)
 else if h = [116, 104, 117, 110, 107] then p0.map .thunk
 else if h = [114, 101, 116, 117, 114, 110] then p0.map .ret
 else if h = [116, 111] ∨ h = [115, 112, 108, 105, 116] then p1
 else if h = [102, 111, 114, 99, 101] then (match p0 with
  | some (.thunk c) => some c
  | _ => none)
 else if h = [108, 97, 109] then (match ty, p0 with
  | some x, some y => some (.fn x y)
  | _, _ => none)
 else if h = [97, 112, 112] then (match p0, p1 with
  | some (.fn x c), some y => if x.write = y.write then some c else none
  | _, _ => none)
 else if h = [105, 102] then (match p0, p1, p2 with
  | some .bit, some x, some y => if x.write = y.write then some x else none
  | _, _, _ => none)
 else if h = [98, 111, 116, 104] then (match p0, p1 with
  | some x, some y => some (.choice x y)
  | _, _ => none)
 else if h = [102, 115, 116] then (match p0 with
  | some (.choice c _) => some c
  | _ => none)
 else if h = [115, 110, 100] then (match p0 with
  | some (.choice _ d) => some d
  | _ => none)
 else if h = [103, 101, 116] then p0
 else if h = [112, 117, 116] then (match p0 with
  | some .bit => p1
  | _ => none)
 else if h = [102, 97, 105, 108] then ty
 else if h = [116, 114, 121] then (match p0, p1 with
  | some (.ret a), some y => if (Ty.ret a).write = y.write then some (.ret a) else none
  | _, _ => none)
 else none
def limT : Option Ty → Option Ty
 | some t => if t.atoms ≤ 12 then some t else none
 | none => none
mutual
def Tm.typ (env : List (ByteArray × Ty)) : Tm → Option Ty
 | .mk hd a _ bs ty ks => match Tm.typs hd.toList ty bs env [] ks with
  | none => none
  | some ps => limT (joinT hd.toList ty a.toList env ps[0]? ps[1]? ps[2]?)
def Tm.typs (h : List UInt8) (ty : Option Ty) (bs : List ByteArray) (env : List (ByteArray × Ty)) (acc : List Ty) : List Tm → Option (List Ty)
 | [] => some acc
 | k :: ks => match (if ks.isEmpty = true then bndT h ty acc[0]? else some []) with
  | none => none
  | some bts => match Tm.typ (enw env (if ks.isEmpty = true then bs else []) bts) k with
   | none => none
   | some t => Tm.typs h ty bs env (acc ++ [t]) ks
end
def tyIn : List Sg → List Tree → Option Ty
 | .A :: _, p :: _ => tyLim p
 | .C :: _, p :: _ => tyLim p
 | _ :: cs, _ :: ps => tyIn cs ps
 | _, _ => none
mutual
def Tree.typ (env : List (ByteArray × Ty)) : Tree → Option Ty
 | .atom s => if nameB s.toList = true then limT (lookR s.toList env) else some .bit
 | .node [] => none
 | .node (h :: ps) =>
  if (Tree.kts h.text.toList (tyIn (shape h.text.toList) ps) (xsOf (shape h.text.toList) ps) env [] (shape h.text.toList) ps).all Option.isSome = true then
   limT (joinT h.text.toList (tyIn (shape h.text.toList) ps) [] env
    (Tree.kts h.text.toList (tyIn (shape h.text.toList) ps) (xsOf (shape h.text.toList) ps) env [] (shape h.text.toList) ps)[0]?.join
    (Tree.kts h.text.toList (tyIn (shape h.text.toList) ps) (xsOf (shape h.text.toList) ps) env [] (shape h.text.toList) ps)[1]?.join
    (Tree.kts h.text.toList (tyIn (shape h.text.toList) ps) (xsOf (shape h.text.toList) ps) env [] (shape h.text.toList) ps)[2]?.join)
  else none
def Tree.kts (h : List UInt8) (ty : Option Ty) (xs : List ByteArray) (env : List (ByteArray × Ty)) (acc : List (Option Ty)) : List Sg → List Tree → List (Option Ty)
 | [], _ => acc
 | _ :: _, [] => acc
 | c :: cs, p :: ps => if c.isK = true then Tree.kts h ty xs env (acc ++ [match (if cs.isEmpty = true then bndT h ty acc[0]?.join else some []) with
     | none => none
     | some bts => Tree.typ (enw env (if cs.isEmpty = true then xs else []) bts) p]) cs ps
  else Tree.kts h ty xs env acc cs ps
end
theorem kts_acc (h : List UInt8) (ty : Option Ty) (xs : List ByteArray) (env : List (ByteArray × Ty)) : ∀ (cs : List Sg) (ps : List Tree) (acc : List (Option Ty)), ∃ more, Tree.kts h ty xs env acc cs ps = acc ++ more
 | [], _, acc => ⟨[], by rw [Tree.kts, List.append_nil]⟩
 | _ :: _, [], acc => ⟨[], by rw [Tree.kts, List.append_nil]⟩
 | c :: cs, p :: ps, acc => by
  rw [Tree.kts]
  by_cases hc : c.isK = true
  ·rw [if_pos hc]
   obtain ⟨more, hm⟩ := kts_acc h ty xs env cs ps (acc ++ [match (if cs.isEmpty = true then bndT h ty acc[0]?.join else some []) with
    | none => none
    | some bts => Tree.typ (enw env (if cs.isEmpty = true then xs else []) bts) p])
   exact ⟨_ :: more, by rw [hm, List.append_assoc]; rfl⟩
  ·rw [if_neg hc]; exact kts_acc h ty xs env cs ps acc
def endK : List Sg → Bool
 | [] => true
 | [c] => c.isK
 | _ :: cs => endK cs
theorem shape_end (h : List UInt8) : endK (shape h) = true ∨ shape h = [.C] := by
 rcases shp h with ⟨hs, he⟩ | ⟨hs, he⟩
 ·rw [he]; exact Or.inl rfl
 ·rcases he with he | he | he | he | he | he | he | he | he | he | he | he <;> (rw [he]; first | exact Or.inl rfl | exact Or.inr rfl)
theorem endK_pos : ∀ (cs : List Sg), endK cs = true → cs ≠ [] → 0 < cs.countP Sg.isK
 | [], _, h => absurd rfl h
 | [c], h, _ => by simp only [endK] at h; simp [h]
 | c :: d :: cs, h, _ => by
  have := endK_pos (d :: cs) (by simpa [endK] using h) (by simp)
  have := List.countP_cons (p := Sg.isK) (a := c) (l := d :: cs)
  omega
theorem endK_tail {c : Sg} {cs : List Sg} (h : endK (c :: cs) = true) : endK cs = true := by
 cases cs with
 | nil => rfl
 | cons d cs => simpa [endK] using h
theorem parts_typ (ar : List ByteArray) (h : List UInt8) (ty : Option Ty) (xs : List ByteArray) (env : List (ByteArray × Ty)) : ∀ (cs : List Sg) (ps : List Tree) (st st' : St) (acc : List Ty), (∀ p ∈ ps, ∀ ar m env, p.tm ar = some m → m.typ env = p.typ env) → cs.length = ps.length → endK cs = true →
    Tree.parts ar cs ps st = some st' → ∃ nk, st'.kids = st.kids ++ nk ∧ nk.length = cs.countP Sg.isK ∧ (match Tm.typs h ty xs env acc nk with
     | some l => Tree.kts h ty xs env (acc.map some) cs ps = l.map some
     | none => (Tree.kts h ty xs env (acc.map some) cs ps).all Option.isSome = false)
 | [], [], st, st', acc, _, _, _, hp => by
  simp [Tree.parts] at hp; subst hp
  exact ⟨[], by simp, rfl, by rw [Tm.typs, Tree.kts]⟩
 | c :: cs, p :: ps, st, st', acc, ih, hl, he, hp => by
  have ih' : ∀ p ∈ ps, ∀ ar m env, p.tm ar = some m → m.typ env = p.typ env := fun q hq => ih q (List.mem_cons_of_mem _ hq)
  have hl' : cs.length = ps.length := by simpa using hl
  have he' := endK_tail he
  have other : c.isK = false → ∀ st1, st1.kids = st.kids → Tree.parts ar cs ps st1 = some st' → ∃ nk, st'.kids = st.kids ++ nk ∧ nk.length = (c :: cs).countP Sg.isK ∧ (match Tm.typs h ty xs env acc nk with
      | some l => Tree.kts h ty xs env (acc.map some) (c :: cs) (p :: ps) = l.map some
      | none => (Tree.kts h ty xs env (acc.map some) (c :: cs) (p :: ps)).all Option.isSome = false) := by
   intro hk st1 h1 h2
   obtain ⟨nk, e1, e2, e3⟩ := parts_typ ar h ty xs env cs ps st1 st' acc ih' hl' he' h2
   refine ⟨nk, by rw [e1, h1], by rw [e2, List.countP_cons, hk]; simp, ?_⟩
   rw [Tree.kts, if_neg (by rw [hk]; simp)]
   exact e3
  have kid : ∀ v, c.isK = true → ∀ st1, addK v (p.tm (ar ++ st.binds)) st = some st1 → Tree.parts ar cs ps st1 = some st' → ∃ nk, st'.kids = st.kids ++ nk ∧ nk.length = (c :: cs).countP Sg.isK ∧ (match Tm.typs h ty xs env acc nk with
      | some l => Tree.kts h ty xs env (acc.map some) (c :: cs) (p :: ps) = l.map some
      | none => (Tree.kts h ty xs env (acc.map some) (c :: cs) (p :: ps)).all Option.isSome = false) := by
   intro v hk st1 h1 h2
   obtain ⟨m, ht, h3⟩ := adk h1
   have hm := fun env => ih p (List.mem_cons_self ..) _ _ env ht
   have hlast : ∀ nk : List Tm, nk.length = cs.countP Sg.isK → nk.isEmpty = cs.isEmpty := by
    intro nk hn
    cases cs with
    | nil => simp at hn; subst hn; rfl
    | cons d cs =>
     have := endK_pos _ he' (by simp)
     cases nk with
     | nil => rw [← hn] at this; simp at this
     | cons => rfl
   have hfirst : (acc.map some)[0]?.join = acc[0]? := by cases acc <;> rfl
   have bad : ∀ (l : List (Option Ty)), (Tree.kts h ty xs env (l ++ [none]) cs ps).all Option.isSome = false := by
    intro l
    obtain ⟨more, hmo⟩ := kts_acc h ty xs env cs ps (l ++ [none])
    rw [hmo]; simp
   obtain ⟨nk0, d1, d2, _⟩ := parts_typ ar h ty xs env cs ps st1 st' acc ih' hl' he' h2
   have dk : st'.kids = st.kids ++ (m :: nk0) := by rw [d1, h3]; simp
   refine ⟨m :: nk0, dk, by rw [List.length_cons, d2, List.countP_cons, hk]; simp, ?_⟩
   rw [Tm.typs, Tree.kts, if_pos hk, hlast nk0 d2, hfirst]
   cases hb : (if cs.isEmpty = true then bndT h ty acc[0]? else some []) with
   | none => exact bad _
   | some bts =>
    simp only
    rw [hm]
    cases hq : p.typ (enw env (if cs.isEmpty = true then xs else []) bts) with
    | none => exact bad _
    | some t =>
     simp only
     obtain ⟨nk, e1, e2, e3⟩ := parts_typ ar h ty xs env cs ps st1 st' (acc ++ [t]) ih' hl' he' h2
     have : nk = nk0 := by
      rw [d1] at e1; exact (List.append_cancel_left e1).symm
     subst this
     simpa using e3
  cases c with
  | X =>
   rw [Tree.parts] at hp
   cases h1 : addX p.text st with
   | none => rw [h1] at hp; simp at hp
   | some st1 => rw [h1] at hp; exact other rfl st1 (by rw [(adx h1).2]) hp
  | A =>
   rw [Tree.parts] at hp
   cases h1 : addT true p st with
   | none => rw [h1] at hp; simp at hp
   | some st1 => rw [h1] at hp; obtain ⟨ty, _, h2⟩ := adt h1; exact other rfl st1 (by rw [h2]) hp
  | C =>
   rw [Tree.parts] at hp
   cases h1 : addT false p st with
   | none => rw [h1] at hp; simp at hp
   | some st1 => rw [h1] at hp; obtain ⟨ty, _, h2⟩ := adt h1; exact other rfl st1 (by rw [h2]) hp
  | V =>
   rw [Tree.parts] at hp
   cases h1 : addK true (p.tm (ar ++ st.binds)) st with
   | none => rw [h1] at hp; simp at hp
   | some st1 => rw [h1] at hp; exact kid true rfl st1 h1 hp
  | M =>
   rw [Tree.parts] at hp
   cases h1 : addK false (p.tm (ar ++ st.binds)) st with
   | none => rw [h1] at hp; simp at hp
   | some st1 => rw [h1] at hp; exact kid false rfl st1 h1 hp
theorem pay (ar : List ByteArray) : ∀ (cs : List Sg) (ps : List Tree) (st st' : St), cs.length = ps.length → tyOnce cs st →
    Tree.parts ar cs ps st = some st' → st'.ty = (match st.ty with
     | some t => some t
     | none => tyIn cs ps) ∧ st'.binds = st.binds ++ xsOf cs ps
 | [], [], st, st', _, _, hp => by
  simp [Tree.parts] at hp; subst hp
  cases st.ty <;> simp [tyIn, xsOf]
 | c :: cs, p :: ps, st, st', hl, ho, hp => by
  have hl' : cs.length = ps.length := by simpa using hl
  cases c with
  | X =>
   rw [Tree.parts] at hp
   cases h1 : addX p.text st with
   | none => rw [h1] at hp; simp at hp
   | some st1 =>
    rw [h1] at hp
    have h2 := (adx h1).2
    have := pay ar cs ps st1 st' hl' (tyo ho (fun _ => by rw [h2])) hp
    rw [this.1, this.2, h2]
    simp [tyIn, xsOf]
  | A =>
   rw [Tree.parts] at hp
   cases h1 : addT true p st with
   | none => rw [h1] at hp; simp at hp
   | some st1 =>
    rw [h1] at hp
    obtain ⟨ty, ht, h2⟩ := adt h1
    have := pay ar cs ps st1 st' hl' (tyo ho (by simp [Sg.isT])) hp
    rw [this.1, this.2, h2, tyn ho rfl]
    simp [tyIn, xsOf, ht]
  | C =>
   rw [Tree.parts] at hp
   cases h1 : addT false p st with
   | none => rw [h1] at hp; simp at hp
   | some st1 =>
    rw [h1] at hp
    obtain ⟨ty, ht, h2⟩ := adt h1
    have := pay ar cs ps st1 st' hl' (tyo ho (by simp [Sg.isT])) hp
    rw [this.1, this.2, h2, tyn ho rfl]
    simp [tyIn, xsOf, ht]
  | V =>
   rw [Tree.parts] at hp
   cases h1 : addK true (p.tm (ar ++ st.binds)) st with
   | none => rw [h1] at hp; simp at hp
   | some st1 =>
    rw [h1] at hp
    obtain ⟨m, ht, h2⟩ := adk h1
    have := pay ar cs ps st1 st' hl' (tyo ho (fun _ => by rw [h2])) hp
    rw [this.1, this.2, h2]
    simp [tyIn, xsOf]
  | M =>
   rw [Tree.parts] at hp
   cases h1 : addK false (p.tm (ar ++ st.binds)) st with
   | none => rw [h1] at hp; simp at hp
   | some st1 =>
    rw [h1] at hp
    obtain ⟨m, ht, h2⟩ := adk h1
    have := pay ar cs ps st1 st' hl' (tyo ho (fun _ => by rw [h2])) hp
    rw [this.1, this.2, h2]
    simp [tyIn, xsOf]
theorem joinT_atom (h : List UInt8) (hs : shape h ≠ []) (ty : Option Ty) (a b : List UInt8) (env : List (ByteArray × Ty)) (p0 p1 p2 : Option Ty) : joinT h ty a env p0 p1 p2 = joinT h ty b env p0 p1 p2 := by
 unfold joinT
 have hn : h ≠ [110, 97, 109, 101] := fun e => hs (by rw [e]; rfl)
 rw [if_neg hn, if_neg hn]
theorem all_some {l : List (Option Ty)} {q : List Ty} (h : l = q.map some) : l.all Option.isSome = true ∧ ∀ i : Nat, l[i]?.join = q[i]? := by
 subst h
 refine ⟨by simp, fun i => ?_⟩
 rw [List.getElem?_map]
 cases q[i]? <;> rfl
theorem tm_typ (t : Tree) (ar : List ByteArray) (m : Tm) (env : List (ByteArray × Ty)) (h : t.tm ar = some m) : m.typ env = t.typ env := by
 match t with
 | .atom s =>
  rw [Tree.tm, atomTm] at h
  split at h
  ·rename_i c; simp at h; subst h
   rw [Tm.typ, Tm.typs, Tree.typ, if_neg]
   ·rw [stb]; rfl
   ·rcases c with c | c <;> (rw [c]; simp [nameB])
  ·split at h
   ·rename_i c; simp at h; subst h
    rw [Tm.typ, Tm.typs, Tree.typ, if_pos c, strName_toList]; rfl
   ·simp at h
 | .node [] => rw [Tree.tm] at h; simp at h
 | .node (q :: ps) =>
  obtain ⟨st, h1, h2, h3, rfl⟩ := tmn h
  have h4 := pay ar _ ps St.none st h2 (she _) h3
  rw [Tm.typ, Tree.typ, show st.binds = xsOf (shape q.text.toList) ps by rw [h4.2]; rfl, show st.ty = tyIn (shape q.text.toList) ps by rw [h4.1]; rfl]
  rcases shape_end q.text.toList with he | he
  ·obtain ⟨nk, e1, _, e3⟩ := parts_typ ar q.text.toList (tyIn (shape q.text.toList) ps) (xsOf (shape q.text.toList) ps) env _ ps St.none st [] (fun p hp ar m env => tm_typ p ar m env) h2 he h3
   rw [show st.kids = nk by rw [e1]; rfl]
   cases hq : Tm.typs q.text.toList (tyIn (shape q.text.toList) ps) (xsOf (shape q.text.toList) ps) env [] nk with
   | none =>
    rw [hq] at e3
    simp only [List.map_nil] at e3
    rw [if_neg (by rw [e3]; simp)]
   | some l =>
    rw [hq] at e3
    simp only [List.map_nil] at e3
    have := all_some e3
    rw [if_pos this.1, this.2, this.2, this.2]
    simp only
    rw [joinT_atom _ h1]
  ·rw [he] at h2 h3 ⊢
   match ps, h2 with
   | [p], _ =>
    rw [Tree.parts] at h3
    cases h5 : addT false p St.none with
    | none => rw [h5] at h3; simp at h3
    | some st1 =>
     rw [h5] at h3; simp [Tree.parts] at h3; subst h3
     obtain ⟨ty, ht, h6⟩ := adt h5
     have e0 : Tree.kts q.text.toList (tyIn [Sg.C] [p]) (xsOf [Sg.C] [p]) env [] [Sg.C] [p] = [] := by
      rw [Tree.kts, if_neg (by simp [Sg.isK])]
      unfold Tree.kts; rfl
     rw [show st1.kids = [] by rw [h6]; rfl, Tm.typs, e0, if_pos (show List.all ([] : List (Option Ty)) Option.isSome = true from rfl)]
     simp only
     rw [joinT_atom _ h1]; rfl
termination_by t
decreasing_by
 have := List.sizeOf_lt_of_mem hp
 simp; omega
def txtO : Option Ty → ByteArray
 | some t => t.text
 | none => ByteArray.empty
theorem tyt (t : Ty) : t.text.toList = t.write := by rw [Go.ByteArray.toList_eq]; rfl
theorem ty_txt_data (t : Ty) : t.text.data.toList = t.write := rfl
def Ty.good (t : Ty) : Prop := t.wf = true ∧ t.atoms ≤ 12
theorem tyLim_good {t : Tree} {ty : Ty} (h : tyLim t = some ty) : ty.good :=
 ⟨ty_wf t ty (tyl h).1, by rw [← ty_size t ty (tyl h).1]; exact (tyl h).2⟩
theorem readTy_good {s : ByteArray} {ty : Ty} (h : readTy s = some ty) : ty.good := by
 unfold readTy at h
 split at h
 ·rename_i t _
  split at h
  ·rename_i hc; exact ⟨ty_wf t ty h, by rw [← ty_size t ty h]; exact hc⟩
  ·simp at h
 ·simp at h
def EnvOk (env : List (ByteArray × Ty)) : Prop := ∀ x ∈ env, x.2.good ∧ x.2.isVal = true
theorem lookR_ok {env : List (ByteArray × Ty)} (h : EnvOk env) {s : List UInt8} {t : Ty} (hl : lookR s env = some t) : t.good ∧ t.isVal = true := by
 induction env with
 | nil => simp [lookR] at hl
 | cons x env ih =>
  obtain ⟨n, ty⟩ := x
  rw [lookR] at hl
  split at hl
  ·simp at hl; subst hl; exact h (n, ty) (by simp)
  ·exact ih (fun y hy => h y (by simp [hy])) hl
theorem limT_look {env : List (ByteArray × Ty)} (h : EnvOk env) (s : List UInt8) : limT (lookR s env) = lookR s env := by
 cases hl : lookR s env with
 | none => rfl
 | some t => rw [limT, if_pos (lookR_ok h hl).1.2]
theorem envWith_ok {env : List (ByteArray × Ty)} (h : EnvOk env) (bs : List ByteArray) (ts : List Ty) (ht : ∀ t ∈ ts, t.good ∧ t.isVal = true) : EnvOk (enw env bs ts) := by
 intro x hx
 unfold enw at hx
 rcases List.mem_append.1 hx with hx | hx
 ·rw [List.mem_reverse] at hx
  exact ht _ (List.of_mem_zip (a := x.1) (b := x.2) hx).2
 ·exact h x hx
theorem limT_some {o : Option Ty} {t : Ty} (h : limT o = some t) : o = some t ∧ t.atoms ≤ 12 := by
 cases o with
 | none => simp [limT] at h
 | some u =>
  rw [limT] at h
  split at h
  ·rename_i hc; simp at h; subst h; exact ⟨rfl, hc⟩
  ·simp at h
def kSorts : List Sg → List Bool
 | [] => []
 | .V :: cs => true :: kSorts cs
 | .M :: cs => false :: kSorts cs
 | _ :: cs => kSorts cs
def tSort : List Sg → Option Bool
 | [] => none
 | .A :: _ => some true
 | .C :: _ => some false
 | _ :: cs => tSort cs
theorem bndT_ok {h : List UInt8} {ty first : Option Ty} {ts : List Ty} (hb : bndT h ty first = some ts) (hf : ∀ t, first = some t → t.good) (ht : ∀ t, h = [108, 97, 109] → ty = some t → t.good ∧ t.isVal = true) : ∀ t ∈ ts, t.good ∧ t.isVal = true := by
 unfold bndT at hb
 split at hb
 ·split at hb
  ·rename_i a
   simp at hb; subst hb
   have h1 := hf _ rfl
   intro t h2; simp at h2; subst h2
   unfold Ty.good at h1 ⊢
   simp only [Ty.wf, Ty.atoms, Bool.and_eq_true] at h1
   exact ⟨⟨h1.1.1, by omega⟩, h1.1.2⟩
  ·simp at hb
 ·split at hb
  ·split at hb
   ·rename_i a b
    simp at hb; subst hb
    have h1 := hf _ rfl
    unfold Ty.good at h1
    simp only [Ty.wf, Ty.atoms, Bool.and_eq_true] at h1
    intro t h2; simp at h2
    rcases h2 with rfl | rfl
    ·exact ⟨⟨h1.1.1.1.1, by omega⟩, h1.1.1.2⟩
    ·exact ⟨⟨h1.1.1.1.2, by omega⟩, h1.1.2⟩
   ·simp at hb
  ·split at hb
   ·rename_i hl
    cases ty with
    | none => simp at hb
    | some u => simp at hb; subst hb; intro t h2; simp at h2; subst h2; exact ht _ hl rfl
   ·split at hb
    ·simp at hb; subst hb; intro t h2; simp at h2; subst h2; exact ⟨⟨rfl, by decide⟩, rfl⟩
    ·simp at hb; subst hb; intro t h2; simp at h2
theorem fits_tyIn : ∀ (cs : List Sg) (ps : List Tree), Tree.fits cs ps = true → ∀ t, tyIn cs ps = some t → t.good ∧ tSort cs = some t.isVal
 | [], _, _, t, h => by simp [tyIn] at h
 | _ :: _, [], hf, _, _ => by simp [Tree.fits] at hf
 | c :: cs, p :: ps, hf, t, h => by
  have hf2 : Tree.fits cs ps = true := by cases c <;> (rw [Tree.fits, Bool.and_eq_true] at hf; exact hf.2)
  cases c with
  | A =>
   rw [tyIn] at h
   rw [Tree.fits, Bool.and_eq_true] at hf
   have := hf.1
   simp only [h, Option.any_some] at this
   exact ⟨tyLim_good h, by rw [tSort, this]⟩
  | C =>
   rw [tyIn] at h
   rw [Tree.fits, Bool.and_eq_true] at hf
   have := hf.1
   simp only [h, Option.any_some, Bool.not_eq_true'] at this
   exact ⟨tyLim_good h, by rw [tSort, this]⟩
  | X => exact fits_tyIn cs ps hf2 t (by simpa [tyIn] using h)
  | V => exact fits_tyIn cs ps hf2 t (by simpa [tyIn] using h)
  | M => exact fits_tyIn cs ps hf2 t (by simpa [tyIn] using h)
theorem kts_ok (h : List UInt8) (ty : Option Ty) (xs : List ByteArray) (env : List (ByteArray × Ty)) (he : EnvOk env) (hty : ∀ t, h = [108, 97, 109] → ty = some t → t.good ∧ t.isVal = true) : ∀ (cs : List Sg) (ps : List Tree) (acc : List (Option Ty)) (done : List Bool),
    (∀ p ∈ ps, ∀ env v t, EnvOk env → p.srt = some v → p.typ env = some t → t.good ∧ t.isVal = v) → Tree.fits cs ps = true → (∀ (i : Nat) t, acc[i]? = some (some t) → t.good ∧ done[i]? = some t.isVal) → acc.length = done.length →
    ∀ (i : Nat) t, (Tree.kts h ty xs env acc cs ps)[i]? = some (some t) → t.good ∧ (done ++ kSorts cs)[i]? = some t.isVal
 | [], ps, acc, done, ih, hf, ha, hl, i, t, hi => by
  rw [Tree.kts] at hi
  rw [kSorts, List.append_nil]; exact ha i t hi
 | _ :: _, [], _, _, _, hf, _, _, _, _, _ => by simp [Tree.fits] at hf
 | c :: cs, p :: ps, acc, done, ih, hf, ha, hl, i, t, hi => by
  have ih' : ∀ p ∈ ps, ∀ env v t, EnvOk env → p.srt = some v → p.typ env = some t → t.good ∧ t.isVal = v := fun q hq => ih q (List.mem_cons_of_mem _ hq)
  have hf2 : Tree.fits cs ps = true := by cases c <;> (rw [Tree.fits, Bool.and_eq_true] at hf; exact hf.2)
  rw [Tree.kts] at hi
  have kid : ∀ v, p.srt = some v → c.isK = true → kSorts (c :: cs) = v :: kSorts cs → t.good ∧ (done ++ kSorts (c :: cs))[i]? = some t.isVal := by
   intro v hv hk hs
   rw [if_pos hk] at hi
   have := kts_ok h ty xs env he hty cs ps _ (done ++ [v]) ih' hf2 (fun j u hj => by
    rw [List.getElem?_append] at hj ⊢
    split at hj
    ·rename_i hlt
     rw [if_pos (by omega)]; exact ha j u hj
    ·rename_i hge
     rw [if_neg (by omega)]
     have hj0 : j - acc.length = 0 := by
      by_cases h0 : j - acc.length = 0
      ·exact h0
      ·rw [List.getElem?_eq_none (by simp; omega)] at hj; simp at hj
     rw [hj0] at hj
     rw [show j - done.length = 0 by omega]
     simp only [List.getElem?_cons_zero, Option.some.injEq] at hj ⊢
     split at hj
     ·simp at hj
     ·rename_i bts hb
      have hbt : ∀ t ∈ bts, t.good ∧ t.isVal = true := by
       by_cases hc : cs.isEmpty = true
       ·rw [if_pos hc] at hb
        refine bndT_ok hb (fun t ht => ?_) hty
        cases ha0 : acc[0]? with
        | none => rw [ha0] at ht; simp at ht
        | some o => rw [ha0] at ht; simp at ht; subst ht; exact (ha 0 t ha0).1
       ·rw [if_neg hc] at hb; simp at hb; subst hb; intro t ht; simp at ht
      have := ih p (List.mem_cons_self ..) _ v u (envWith_ok he _ _ hbt) hv hj
      exact ⟨this.1, this.2.symm⟩) (by simp; omega) i t hi
   rw [hs]; simpa [List.append_assoc] using this
  cases c with
  | X => rw [if_neg (by simp [Sg.isK])] at hi; show t.good ∧ (done ++ kSorts cs)[i]? = some t.isVal; exact kts_ok h ty xs env he hty cs ps acc done ih' hf2 ha hl i t hi
  | A => rw [if_neg (by simp [Sg.isK])] at hi; show t.good ∧ (done ++ kSorts cs)[i]? = some t.isVal; exact kts_ok h ty xs env he hty cs ps acc done ih' hf2 ha hl i t hi
  | C => rw [if_neg (by simp [Sg.isK])] at hi; show t.good ∧ (done ++ kSorts cs)[i]? = some t.isVal; exact kts_ok h ty xs env he hty cs ps acc done ih' hf2 ha hl i t hi
  | V => rw [Tree.fits, Bool.and_eq_true] at hf; exact kid true (by simpa using hf.1) rfl rfl
  | M => rw [Tree.fits, Bool.and_eq_true] at hf; exact kid false (by simpa using hf.1) rfl rfl
theorem joinT_ok {h a : List UInt8} {ty p0 p1 p2 : Option Ty} {env : List (ByteArray × Ty)} {t : Ty} (hj : joinT h ty a env p0 p1 p2 = some t) (hs : shape h ≠ []) (ht : ∀ x, ty = some x → x.good ∧ tSort (shape h) = some x.isVal)
    (h0 : ∀ x, p0 = some x → x.good ∧ (kSorts (shape h))[0]? = some x.isVal) (h1 : ∀ x, p1 = some x → x.good ∧ (kSorts (shape h))[1]? = some x.isVal) (h2 : ∀ x, p2 = some x → x.good ∧ (kSorts (shape h))[2]? = some x.isVal) : t.wf = true ∧ t.isVal = isv h := by
 unfold joinT at hj
 by_cases c : h = [110, 97, 109, 101]
 ·exact absurd (by rw [c]; rfl) hs
 rw [if_neg c] at hj; clear c
 by_cases c : h = [98, 105, 116]
 ·exact absurd (by rw [c]; rfl) hs
 rw [if_neg c] at hj; clear c
 by_cases c : h = [112, 97, 105, 114]
 ·rw [if_pos c] at hj; subst c
  split at hj
  ·rename_i x y
   simp at hj; subst hj
   have g0 := h0 x rfl; have g1 := h1 y rfl
   have k0 : true = x.isVal := Option.some.inj g0.2
   have k1 : true = y.isVal := Option.some.inj g1.2
   exact ⟨by simp [Ty.wf, g0.1.1, g1.1.1, ← k0, ← k1], rfl⟩
  ·simp at hj
 rw [if_neg c] at hj; clear c
 by_cases c : h = [116, 104, 117, 110, 107]
 ·rw [if_pos c] at hj; subst c
  cases p0 with
  | none => simp at hj
  | some x =>
   simp at hj; subst hj
   have g0 := h0 x rfl
   have k0 : false = x.isVal := Option.some.inj g0.2
   exact ⟨by simp [Ty.wf, g0.1.1, ← k0], rfl⟩
 rw [if_neg c] at hj; clear c
 by_cases c : h = [114, 101, 116, 117, 114, 110]
 ·rw [if_pos c] at hj; subst c
  cases p0 with
  | none => simp at hj
  | some x =>
   simp at hj; subst hj
   have g0 := h0 x rfl
   have k0 : true = x.isVal := Option.some.inj g0.2
   exact ⟨by simp [Ty.wf, g0.1.1, ← k0], rfl⟩
 rw [if_neg c] at hj; clear c
 by_cases c : h = [116, 111] ∨ h = [115, 112, 108, 105, 116]
 ·rw [if_pos c] at hj; subst hj
  have g1 := h1 t rfl
  rcases c with c | c <;> subst c <;> exact ⟨g1.1.1, (Option.some.inj g1.2).symm⟩
 rw [if_neg c] at hj; clear c
 by_cases c : h = [102, 111, 114, 99, 101]
 ·rw [if_pos c] at hj; subst c
  split at hj
  ·rename_i x
   simp at hj; subst hj
   have g0 := (h0 _ rfl).1.1
   simp only [Ty.wf, Bool.and_eq_true, Bool.not_eq_true'] at g0
   exact ⟨g0.1, g0.2⟩
  ·simp at hj
 rw [if_neg c] at hj; clear c
 by_cases c : h = [108, 97, 109]
 ·rw [if_pos c] at hj; subst c
  split at hj
  ·rename_i x y
   simp at hj; subst hj
   have g0 := ht x rfl; have g1 := h0 y rfl
   have k0 : true = x.isVal := Option.some.inj g0.2
   have k1 : false = y.isVal := Option.some.inj g1.2
   exact ⟨by simp [Ty.wf, g0.1.1, g1.1.1, ← k0, ← k1], rfl⟩
  ·simp at hj
 rw [if_neg c] at hj; clear c
 by_cases c : h = [97, 112, 112]
 ·rw [if_pos c] at hj; subst c
  split at hj
  ·rename_i x y z
   split at hj
   ·simp at hj; subst hj
    have g0 := (h0 _ rfl).1.1
    simp only [Ty.wf, Bool.and_eq_true, Bool.not_eq_true'] at g0
    exact ⟨g0.1.1.2, g0.2⟩
   ·simp at hj
  ·simp at hj
 rw [if_neg c] at hj; clear c
 by_cases c : h = [105, 102]
 ·rw [if_pos c] at hj; subst c
  split at hj
  ·rename_i x y
   split at hj
   ·simp at hj; subst hj
    have g1 := h1 x rfl
    exact ⟨g1.1.1, (Option.some.inj g1.2).symm⟩
   ·simp at hj
  ·simp at hj
 rw [if_neg c] at hj; clear c
 by_cases c : h = [98, 111, 116, 104]
 ·rw [if_pos c] at hj; subst c
  split at hj
  ·rename_i x y
   simp at hj; subst hj
   have g0 := h0 x rfl; have g1 := h1 y rfl
   have k0 : false = x.isVal := Option.some.inj g0.2
   have k1 : false = y.isVal := Option.some.inj g1.2
   exact ⟨by simp [Ty.wf, g0.1.1, g1.1.1, ← k0, ← k1], rfl⟩
  ·simp at hj
 rw [if_neg c] at hj; clear c
 by_cases c : h = [102, 115, 116]
 ·rw [if_pos c] at hj; subst c
  split at hj
  ·rename_i x y
   simp at hj; subst hj
   have g0 := (h0 _ rfl).1.1
   simp only [Ty.wf, Bool.and_eq_true, Bool.not_eq_true'] at g0
   exact ⟨g0.1.1.1, g0.1.2⟩
  ·simp at hj
 rw [if_neg c] at hj; clear c
 by_cases c : h = [115, 110, 100]
 ·rw [if_pos c] at hj; subst c
  split at hj
  ·rename_i x y
   simp at hj; subst hj
   have g0 := (h0 _ rfl).1.1
   simp only [Ty.wf, Bool.and_eq_true, Bool.not_eq_true'] at g0
   exact ⟨g0.1.1.2, g0.2⟩
  ·simp at hj
 rw [if_neg c] at hj; clear c
 by_cases c : h = [103, 101, 116]
 ·rw [if_pos c] at hj; subst c; subst hj
  have g0 := h0 t rfl
  exact ⟨g0.1.1, (Option.some.inj g0.2).symm⟩
 rw [if_neg c] at hj; clear c
 by_cases c : h = [112, 117, 116]
 ·rw [if_pos c] at hj; subst c
  split at hj
  ·subst hj
   have g1 := h1 t rfl
   exact ⟨g1.1.1, (Option.some.inj g1.2).symm⟩
  ·simp at hj
 rw [if_neg c] at hj; clear c
 by_cases c : h = [102, 97, 105, 108]
 ·rw [if_pos c] at hj; subst c; subst hj
  have g0 := ht t rfl
  exact ⟨g0.1.1, (Option.some.inj g0.2).symm⟩
 rw [if_neg c] at hj; clear c
 by_cases c : h = [116, 114, 121]
 ·rw [if_pos c] at hj; subst c
  split at hj
  ·rename_i x y
   split at hj
   ·simp at hj; subst hj
    have g0 := h0 _ rfl
    exact ⟨g0.1.1, (Option.some.inj g0.2).symm⟩
   ·simp at hj
  ·simp at hj
 rw [if_neg c] at hj
 simp at hj
theorem join_some {l : List (Option Ty)} {i : Nat} {t : Ty} (h : l[i]?.join = some t) : l[i]? = some (some t) := by
 cases hl : l[i]? with
 | none => rw [hl] at h; simp at h
 | some o => rw [hl] at h; simp at h; rw [h]
theorem typ_ok (t : Tree) (env : List (ByteArray × Ty)) (v : Bool) (ty : Ty) (he : EnvOk env) (hv : t.srt = some v) (ht : t.typ env = some ty) : ty.good ∧ ty.isVal = v := by
 match t with
 | .atom s =>
  rw [Tree.srt] at hv
  split at hv
  ·simp at hv; subst hv
   rw [Tree.typ] at ht
   split at ht
   ·rw [limT_look he] at ht; exact lookR_ok he ht
   ·simp at ht; subst ht; exact ⟨⟨rfl, by decide⟩, rfl⟩
  ·simp at hv
 | .node [] => rw [Tree.srt] at hv; simp at hv
 | .node (q :: qs) =>
  rw [Tree.srt] at hv
  split at hv
  ·simp at hv
  ·rename_i hno
   split at hv
   ·rename_i hfit
    simp at hv; subst hv
    rw [Tree.typ] at ht
    split at ht
    ·rename_i hall
     obtain ⟨hj, ha⟩ := limT_some ht
     have hT := fits_tyIn _ _ hfit.1
     have hk := kts_ok q.text.toList (tyIn (shape q.text.toList) qs) (xsOf (shape q.text.toList) qs) env he (fun t hl h => ⟨(hT t h).1, by have := (hT t h).2; rw [hl] at this; exact (Option.some.inj this).symm⟩) (shape q.text.toList) qs [] [] (fun p hp env v t h1 h2 h3 => typ_ok p env v t h1 h2 h3) hfit.1 (fun i t h => by simp at h) rfl
     have := joinT_ok hj (fun e => hno (Or.inl e)) hT (fun x hx => by simpa using hk 0 x (join_some hx)) (fun x hx => by simpa using hk 1 x (join_some hx)) (fun x hx => by simpa using hk 2 x (join_some hx))
     exact ⟨⟨this.1, ha⟩, this.2⟩
    ·simp at ht
   ·simp at hv
termination_by t
decreasing_by
 have := List.sizeOf_lt_of_mem hp
 simp; omega
theorem parse_ty {t : Ty} (h : t.atoms ≤ 100) : parse t.text = some t.tree :=
 parse_back (by rw [ty_txt_data, tyr]) (tree_wk t) (by have := tree_dp t; omega) (by rw [tyr]; have := tyw t; omega)
theorem readTy_text {t : Ty} (hw : t.wf = true) (h : t.atoms ≤ 100) : readTy t.text = limT (some t) := by
 rw [readTy, parse_ty h]
 simp only
 rw [tyi, limT, tree_ty t hw]
theorem readTy_good_text {t : Ty} (h : t.good) : readTy t.text = some t := by
 have h1 := h.2
 rw [readTy_text h.1 (by omega), limT, if_pos h.2]
theorem txtO_nil (o : Option Ty) : (txtO o).toList = [] ↔ o = none := by
 cases o with
 | none => rw [txtO]; simp [Go.ByteArray.toList_eq]
 | some t =>
  rw [txtO, tyt]
  refine ⟨fun h => ?_, fun h => by simp at h⟩
  cases t <;> simp [Ty.write] at h
mutual
def Tm.flt (env : List (ByteArray × Ty)) : Tm → Option Tm
 | .mk hd a d bs ty ks => Tm.flts (.mk hd a d bs ty ks) hd.toList a.toList ty bs env [] ks
def Tm.flts (self : Tm) (h a : List UInt8) (ty : Option Ty) (bs : List ByteArray) (env : List (ByteArray × Ty)) (acc : List Ty) : List Tm → Option Tm
 | [] => if (limT (joinT h ty a env acc[0]? acc[1]? acc[2]?)).isSome = true then none else some self
 | k :: ks => match (if ks.isEmpty = true then bndT h ty acc[0]? else some []) with
  | none => some self
  | some bts => match Tm.typ (enw env (if ks.isEmpty = true then bs else []) bts) k with
   | none => Tm.flt (enw env (if ks.isEmpty = true then bs else []) bts) k
   | some t => Tm.flts self h a ty bs env (acc ++ [t]) ks
end
theorem typs_at {ks : List Tm} {i n : Nat} {k : Tm} (hn : ks.length = n) (h : ks[i]? = some k) (hd : List UInt8) (ty : Option Ty) (bs : List ByteArray) (env : List (ByteArray × Ty)) (acc : List Ty) :
    Tm.typs hd ty bs env acc (ks.drop i) = match (if i + 1 = n then bndT hd ty acc[0]? else some []) with
    | none => none
    | some bts => match Tm.typ (enw env (if i + 1 = n then bs else []) bts) k with
     | none => none
     | some t => Tm.typs hd ty bs env (acc ++ [t]) (ks.drop (i + 1)) := by
 have hi := (List.getElem?_eq_some_iff.1 h).1
 have e : (ks.drop (i + 1)).isEmpty = true ↔ i + 1 = n := by
  rw [List.isEmpty_iff, List.drop_eq_nil_iff]; omega
 rw [dro h, Tm.typs]
 simp only [e] <;> rfl
theorem flts_at {ks : List Tm} {i n : Nat} {k : Tm} (hn : ks.length = n) (h : ks[i]? = some k) (self : Tm) (hd a : List UInt8) (ty : Option Ty) (bs : List ByteArray) (env : List (ByteArray × Ty)) (acc : List Ty) :
    Tm.flts self hd a ty bs env acc (ks.drop i) = match (if i + 1 = n then bndT hd ty acc[0]? else some []) with
    | none => some self
    | some bts => match Tm.typ (enw env (if i + 1 = n then bs else []) bts) k with
     | none => Tm.flt (enw env (if i + 1 = n then bs else []) bts) k
     | some t => Tm.flts self hd a ty bs env (acc ++ [t]) (ks.drop (i + 1)) := by
 have hi := (List.getElem?_eq_some_iff.1 h).1
 have e : (ks.drop (i + 1)).isEmpty = true ↔ i + 1 = n := by
  rw [List.isEmpty_iff, List.drop_eq_nil_iff]; omega
 rw [dro h, Tm.flts]
 simp only [e]
def Ty.isBit : Ty → Bool
 | .bit => true
 | _ => false
theorem isBit_any (t : Ty) (w : World) : Calls Tryz.prog 161 #[t.val] w fun e w' => e = .returned (.bool t.isBit) ∧ Below w.heap.size w w' := by
 cases t with
 | bit =>
  simp only [Ty.val]
  have has1 := as_bit_bit (.agg #[])
  go_enter Tryz.func161, Tryz.ntmps161
  go_wp2_with fail
  go_ret
  exact ⟨rfl, (Below.refl _ _).alloc (Nat.le_refl _) _⟩
 | pair x y =>
  simp only [Ty.val]
  have has1 := as_pair_bit (.agg #[x.val, y.val])
  go_enter Tryz.func161, Tryz.ntmps161
  go_wp2_with fail
  go_ret
  exact ⟨rfl, (Below.refl _ _).alloc (Nat.le_refl _) _⟩
 | thunk x =>
  simp only [Ty.val]
  have has1 := as_thunk_bit (.agg #[x.val])
  go_enter Tryz.func161, Tryz.ntmps161
  go_wp2_with fail
  go_ret
  exact ⟨rfl, (Below.refl _ _).alloc (Nat.le_refl _) _⟩
 | ret x =>
  simp only [Ty.val]
  have has1 := as_ret_bit (.agg #[x.val])
  go_enter Tryz.func161, Tryz.ntmps161
  go_wp2_with fail
  go_ret
  exact ⟨rfl, (Below.refl _ _).alloc (Nat.le_refl _) _⟩
 | fn x y =>
  simp only [Ty.val]
  have has1 := as_fn_bit (.agg #[x.val, y.val])
  go_enter Tryz.func161, Tryz.ntmps161
  go_wp2_with fail
  go_ret
  exact ⟨rfl, (Below.refl _ _).alloc (Nat.le_refl _) _⟩
 | choice x y =>
  simp only [Ty.val]
  have has1 := as_choice_bit (.agg #[x.val, y.val])
  go_enter Tryz.func161, Tryz.ntmps161
  go_wp2_with fail
  go_ret
  exact ⟨rfl, (Below.refl _ _).alloc (Nat.le_refl _) _⟩
theorem list_beq {α : Type} [BEq α] [LawfulBEq α] [DecidableEq α] (a b : List α) : (a == b) = decide (a = b) := by
 rw [Bool.eq_iff_iff, beq_iff_eq, decide_eq_true_eq]
theorem sameType_any (a b : Ty) (ha : a.write.length ≤ 12000) (hb : b.write.length ≤ 12000) (w : World) : Calls Tryz.prog 160 #[a.val, b.val] w fun e w' => e = .returned (.bool (decide (a.write = b.write))) ∧ Below w.heap.size w w' := by
 have HA := hid (fun W => typeText_any a ha W)
 have HB := hid (fun W => typeText_any b hb W)
 clear ha hb
 go_enter Tryz.func160, Tryz.ntmps160
 go_wp2_with (first
  | (go_at_call 31; have _ := hb1; refine (HB.out _).mono ?_; rintro e w2 ⟨rfl, hb2⟩)
  | (go_at_call 31; refine (HA.out _).mono ?_; rintro e w1 ⟨rfl, hb1⟩))
 go_ret
 exact ⟨reb (by rw [tyt, tyt, list_beq]), hb1.trans (hb2.mono hb1.size)⟩
theorem envWith_snoc {env : List (ByteArray × Ty)} {bs : List ByteArray} {ts : List Ty} {i : Nat} {b : ByteArray} {t : Ty} (hb : bs[i]? = some b) (ht : ts[i]? = some t) : enw env (bs.take (i + 1)) (ts.take (i + 1)) = (b, t) :: enw env (bs.take i) (ts.take i) := by
 unfold enw
 rw [List.take_add_one, List.take_add_one, hb, ht, Option.toList_some, Option.toList_some, List.zip_append (by
  have h1 := (List.getElem?_eq_some_iff.1 hb).1
  have h2 := (List.getElem?_eq_some_iff.1 ht).1
  simp; omega)]
 simp
theorem with_any (bs : List ByteArray) (ts : List Ty) (env : List (ByteArray × Ty)) {w : World} {S : Nat → Prop} {pe p q : Option Addr} {n m c d : Nat} (he : EIn w S env pe) (hn : bs.length = n) (hm : ts.length = m) (hnm : n ≤ m) (hm4 : m ≤ 4) (hp : Vals w p (bs.map Value.string)) (hq : Vals w q (ts.map Ty.val)) :
    Calls Tryz.prog 136 #[.pointer pe, .slice p n c, .slice q m d] w fun e w' => Below w.heap.size w w' ∧ ∃ pe', e = .returned (.pointer pe') ∧ EIn w' (fun k => S k ∨ w.heap.size ≤ k) (enw env bs ts) pe' := by
 have HE := hid he
 have HN := hid hn
 have HM := hid hm
 have HP := hid hp
 have HQ := hid hq
 have hn4 : n ≤ 4 := by omega
 clear he hn hm hp hq
 go_enter Tryz.func136, Tryz.ntmps136
 go_wp2_with fail
 go_loopw [0, 11] (fun v u wr => ∃ (i : Nat) (p2 : Option Addr), i ≤ n ∧ u = .int .i64 (i : Int) ∧ v = .pointer p2 ∧ Below w.heap.size w wr ∧ EIn wr (fun k => S k ∨ w.heap.size ≤ k) (enw env (bs.take i) (ts.take i)) p2) (fun _ u _ => n - (intOf u).toNat)
 case atStart => exact ⟨0, pe, Nat.zero_le _, rfl, rfl, Below.refl _ _, HE.out.keep (fun _ _ _ => rfl) (fun _ h _ => Or.inl h)⟩
 case round =>
  obtain ⟨i, p2, hi, rfl, rfl, hbel, hin⟩ := hrel
  have hz := hbel.size
  have HIN := hid hin
  clear hin
  by_cases hlt : i < n
  ·obtain ⟨x, hx⟩ : ∃ x, bs[i]? = some x := ⟨_, List.getElem?_eq_getElem (by rw [HN.out]; exact hlt)⟩
   obtain ⟨y, hy⟩ : ∃ y, ts[i]? = some y := ⟨_, List.getElem?_eq_getElem (by rw [HM.out]; omega)⟩
   obtain ⟨b1, o1, rfl, hc1⟩ := HP.out i _ (show (bs.map Value.string)[i]? = some (.string x) by simp [hx])
   obtain ⟨b2, o2, rfl, hc2⟩ := HQ.out i _ (show (ts.map Ty.val)[i]? = some y.val by simp [hy])
   have e1 := (hbel.cell (p := ⟨b1, o1 + i, none⟩) (World.block_lt_of_cell? w _ hc1)).trans hc1
   have e2 := (hbel.cell (p := ⟨b2, o2 + i, none⟩) (World.block_lt_of_cell? w _ hc2)).trans hc2
   obtain ⟨yn, yv, hyv⟩ := y.val_iface
   have HYV := hid hyv
   rw [hyv] at e2
   have HSN := hid (envWith_snoc (env := env) hx hy)
   have him : i < m := by omega
   clear hc1 hc2 hx hy hyv
   go_wp2_with fail
   go_roundw
   case rel =>
    refine ⟨i + 1, some ⟨wr.heap.size, 0, none⟩, by omega, by go_num, rfl, hbel.alloc (by omega) _, ?_⟩
    rw [HSN.out]
    refine .cons x y _ p2 wr.heap.size (Or.inr hz) (by rw [HYV.out]; exact hea _ _ _ rfl) ?_
    exact HIN.out.keep (fun k _ hl => heap_alloc_old _ _ hl) (fun _ hk _ => hk)
   case measure => simp [intOf]; omega
  ·have hin : i = n := by omega
   have HT := hid (show bs.take i = bs by rw [List.take_of_length_le]; rw [HN.out]; omega)
   have HZ := hid (show bs.zip (ts.take n) = bs.zip ts by
    apply List.ext_getElem
    ·simp [HN.out, HM.out]
    ·intro j h1 h2; simp)
   clear hlt
   go_wp2_with fail
   go_ret
   refine ⟨hbel, p2, rfl, ?_⟩
   have := HIN.out
   rw [HT.out] at this
   subst hin
   unfold enw at this ⊢
   rw [HZ.out] at this
   exact this
def BndPost (o : Option (List Ty)) (w : World) (e : Ending) (w' : World) : Prop :=
 Below w.heap.size w w' ∧ match o with
  | some ts => ∃ q c, e = .returned (.tuple #[.slice q ts.length c, .bool true]) ∧ Vals w' q (ts.map Ty.val)
  | none => ∃ q n c, e = .returned (.tuple #[.slice q n c, .bool false])
theorem BndPost.none {w w' : World} {e : Ending} (h : BndPost Option.none w e w') : ∃ q n c, e = .returned (.tuple #[.slice q n c, .bool false]) ∧ Below w.heap.size w w' :=
 let ⟨hb, q, n, c, he⟩ := h; ⟨q, n, c, he, hb⟩
theorem BndPost.some {w w' : World} {e : Ending} {ts : List Ty} (h : BndPost (Option.some ts) w e w') : ∃ q c, e = .returned (.tuple #[.slice q ts.length c, .bool true]) ∧ Vals w' q (ts.map Ty.val) ∧ Below w.heap.size w w' :=
 let ⟨hb, q, c, he, hv⟩ := h; ⟨q, c, he, hv, hb⟩
theorem bnp {o : Option (List Ty)} {w w' : World} {e : Ending} (ho : o = none) (q : Option Addr) (n c : Nat) (he : e = .returned (.tuple #[.slice q n c, .bool false])) (hb : Below w.heap.size w w') : BndPost o w e w' := by
 subst ho; exact ⟨hb, q, n, c, he⟩
theorem bndPost_yes {o : Option (List Ty)} {ts : List Ty} {w w' : World} {e : Ending} (ho : o = some ts) (q : Option Addr) (c : Nat) (he : e = .returned (.tuple #[.slice q ts.length c, .bool true])) (hv : Vals w' q (ts.map Ty.val)) (hb : Below w.heap.size w w') : BndPost o w e w' := by
 subst ho; exact ⟨hb, q, c, he, hv⟩
theorem vas {w : World} {p : Option Addr} {x : Ty} {ps : List Ty} (h : Vals w p ((x :: ps).map Ty.val)) : ∃ b o, p = some ⟨b, o, none⟩ ∧ w.cell? ⟨b, o, none⟩ = some x.val := by
 obtain ⟨b, o, hp, hc⟩ := h 0 x.val rfl
 exact ⟨b, o, hp, by simpa using hc⟩
theorem bound_to {b : Nat} {x1 x2 x3 x4 x5 : Value} {t : TypeId} (hd : ByteArray) (ty : Option Ty) (x : Ty) (ps : List Ty) (p : Option Addr) (n c : Nat) (w : World) (hb : w.heap[b]? = some (.cells #[.string hd, x1, x2, x3, x4, x5] t (0, 0))) (hh : hd.toList = [116, 111])
    (hn : (x :: ps).length = n) (hv : Vals w p ((x :: ps).map Ty.val)) : Calls Tryz.prog 135 #[.pointer (some ⟨b, 0, none⟩), .slice p n c] w (BndPost (bndT hd.toList ty (some x)) w) := by
 have c0 := (ces hb).1
 obtain ⟨vb, vo, rfl, hc⟩ := vas hv
 have h0 : 0 < n := by rw [← hn]; simp
 have h1 : 1 ≤ n := h0
 have e0 : (hd.toList == [116, 111]) = true := by simpa using hh
 have HB := hid (show bndT hd.toList ty (some x) = bndT [116, 111] ty (some x) by rw [hh])
 clear hb hh hn hv
 cases x with
 | bit =>
  simp only [Ty.val] at hc
  have has1 := as_bit_ret (.agg #[])
  go_enter Tryz.func135, Tryz.ntmps135
  go_wp2_with fail
  go_ret2
  exact bnp (by rw [HB.out]; rfl) _ _ _ rfl (((Below.refl _ _).alloc (Nat.le_refl _) _).alloc (by simp) _)
 | pair u v =>
  simp only [Ty.val] at hc
  obtain ⟨nu, vu, hu⟩ := u.val_iface
  rw [hu] at hc
  have Hu := hid hu
  clear hu
  obtain ⟨nv, vv, hv⟩ := v.val_iface
  rw [hv] at hc
  have Hv := hid hv
  clear hv
  have has1 := as_pair_ret (.agg #[.iface nu vu, .iface nv vv])
  go_enter Tryz.func135, Tryz.ntmps135
  go_wp2_with fail
  go_ret2
  exact bnp (by rw [HB.out]; rfl) _ _ _ rfl (((Below.refl _ _).alloc (Nat.le_refl _) _).alloc (by simp) _)
 | thunk u =>
  simp only [Ty.val] at hc
  obtain ⟨nu, vu, hu⟩ := u.val_iface
  rw [hu] at hc
  have Hu := hid hu
  clear hu
  have has1 := as_thunk_ret (.agg #[.iface nu vu])
  go_enter Tryz.func135, Tryz.ntmps135
  go_wp2_with fail
  go_ret2
  exact bnp (by rw [HB.out]; rfl) _ _ _ rfl (((Below.refl _ _).alloc (Nat.le_refl _) _).alloc (by simp) _)
 | ret u =>
  simp only [Ty.val] at hc
  obtain ⟨nu, vu, hu⟩ := u.val_iface
  rw [hu] at hc
  have Hu := hid hu
  clear hu
  have has1 := as_ret_ret (.agg #[.iface nu vu])
  go_enter Tryz.func135, Tryz.ntmps135
  go_wp2_with fail
  go_ret2
  refine bndPost_yes (ts := [u]) (by rw [HB.out]; rfl) _ _ rfl ?_ (((Below.refl _ _).alloc (Nat.le_refl _) _).alloc (by simp) _)
  show Vals _ _ [u.val]
  rw [Hu.out]
  exact vao (hea _ _ _ (by simp))
 | fn u v =>
  simp only [Ty.val] at hc
  obtain ⟨nu, vu, hu⟩ := u.val_iface
  rw [hu] at hc
  have Hu := hid hu
  clear hu
  obtain ⟨nv, vv, hv⟩ := v.val_iface
  rw [hv] at hc
  have Hv := hid hv
  clear hv
  have has1 := as_fn_ret (.agg #[.iface nu vu, .iface nv vv])
  go_enter Tryz.func135, Tryz.ntmps135
  go_wp2_with fail
  go_ret2
  exact bnp (by rw [HB.out]; rfl) _ _ _ rfl (((Below.refl _ _).alloc (Nat.le_refl _) _).alloc (by simp) _)
 | choice u v =>
  simp only [Ty.val] at hc
  obtain ⟨nu, vu, hu⟩ := u.val_iface
  rw [hu] at hc
  have Hu := hid hu
  clear hu
  obtain ⟨nv, vv, hv⟩ := v.val_iface
  rw [hv] at hc
  have Hv := hid hv
  clear hv
  have has1 := as_choice_ret (.agg #[.iface nu vu, .iface nv vv])
  go_enter Tryz.func135, Tryz.ntmps135
  go_wp2_with fail
  go_ret2
  exact bnp (by rw [HB.out]; rfl) _ _ _ rfl (((Below.refl _ _).alloc (Nat.le_refl _) _).alloc (by simp) _)
theorem bound_split {b : Nat} {x1 x2 x3 x4 x5 : Value} {t : TypeId} (hd : ByteArray) (ty : Option Ty) (x : Ty) (ps : List Ty) (p : Option Addr) (n c : Nat) (w : World) (hb : w.heap[b]? = some (.cells #[.string hd, x1, x2, x3, x4, x5] t (0, 0))) (hh : hd.toList = [115, 112, 108, 105, 116])
    (hn : (x :: ps).length = n) (hv : Vals w p ((x :: ps).map Ty.val)) : Calls Tryz.prog 135 #[.pointer (some ⟨b, 0, none⟩), .slice p n c] w (BndPost (bndT hd.toList ty (some x)) w) := by
 have c0 := (ces hb).1
 obtain ⟨vb, vo, rfl, hc⟩ := vas hv
 have h0 : 0 < n := by rw [← hn]; simp
 have h1 : 1 ≤ n := h0
 have e0 : (hd.toList == [116, 111]) = false := by rw [hh]; rfl
 have e1 : (hd.toList == [115, 112, 108, 105, 116]) = true := by simpa using hh
 have HB := hid (show bndT hd.toList ty (some x) = bndT [115, 112, 108, 105, 116] ty (some x) by rw [hh])
 clear hb hh hn hv
 cases x with
 | bit =>
  simp only [Ty.val] at hc
  have has1 := as_bit_pair (.agg #[])
  go_enter Tryz.func135, Tryz.ntmps135
  go_wp2_with fail
  go_ret2
  exact bnp (by rw [HB.out]; rfl) _ _ _ rfl (((Below.refl _ _).alloc (Nat.le_refl _) _).alloc (by simp) _)
 | pair u v =>
  simp only [Ty.val] at hc
  obtain ⟨nu, vu, hu⟩ := u.val_iface
  rw [hu] at hc
  have Hu := hid hu
  clear hu
  obtain ⟨nv, vv, hv⟩ := v.val_iface
  rw [hv] at hc
  have Hv := hid hv
  clear hv
  have has1 := as_pair_pair (.agg #[.iface nu vu, .iface nv vv])
  go_enter Tryz.func135, Tryz.ntmps135
  go_wp2_with fail
  go_ret2
  refine bndPost_yes (ts := [u, v]) (by rw [HB.out]; rfl) _ _ rfl ?_ (((Below.refl _ _).alloc (Nat.le_refl _) _).alloc (by simp) _)
  show Vals _ _ [u.val, v.val]
  rw [Hu.out, Hv.out]
  exact vat (hea _ _ _ (by simp))
 | thunk u =>
  simp only [Ty.val] at hc
  obtain ⟨nu, vu, hu⟩ := u.val_iface
  rw [hu] at hc
  have Hu := hid hu
  clear hu
  have has1 := as_thunk_pair (.agg #[.iface nu vu])
  go_enter Tryz.func135, Tryz.ntmps135
  go_wp2_with fail
  go_ret2
  exact bnp (by rw [HB.out]; rfl) _ _ _ rfl (((Below.refl _ _).alloc (Nat.le_refl _) _).alloc (by simp) _)
 | ret u =>
  simp only [Ty.val] at hc
  obtain ⟨nu, vu, hu⟩ := u.val_iface
  rw [hu] at hc
  have Hu := hid hu
  clear hu
  have has1 := as_ret_pair (.agg #[.iface nu vu])
  go_enter Tryz.func135, Tryz.ntmps135
  go_wp2_with fail
  go_ret2
  exact bnp (by rw [HB.out]; rfl) _ _ _ rfl (((Below.refl _ _).alloc (Nat.le_refl _) _).alloc (by simp) _)
 | fn u v =>
  simp only [Ty.val] at hc
  obtain ⟨nu, vu, hu⟩ := u.val_iface
  rw [hu] at hc
  have Hu := hid hu
  clear hu
  obtain ⟨nv, vv, hv⟩ := v.val_iface
  rw [hv] at hc
  have Hv := hid hv
  clear hv
  have has1 := as_fn_pair (.agg #[.iface nu vu, .iface nv vv])
  go_enter Tryz.func135, Tryz.ntmps135
  go_wp2_with fail
  go_ret2
  exact bnp (by rw [HB.out]; rfl) _ _ _ rfl (((Below.refl _ _).alloc (Nat.le_refl _) _).alloc (by simp) _)
 | choice u v =>
  simp only [Ty.val] at hc
  obtain ⟨nu, vu, hu⟩ := u.val_iface
  rw [hu] at hc
  have Hu := hid hu
  clear hu
  obtain ⟨nv, vv, hv⟩ := v.val_iface
  rw [hv] at hc
  have Hv := hid hv
  clear hv
  have has1 := as_choice_pair (.agg #[.iface nu vu, .iface nv vv])
  go_enter Tryz.func135, Tryz.ntmps135
  go_wp2_with fail
  go_ret2
  exact bnp (by rw [HB.out]; rfl) _ _ _ rfl (((Below.refl _ _).alloc (Nat.le_refl _) _).alloc (by simp) _)
theorem boundTypes_any {b : Nat} {x1 x2 x3 x5 : Value} {t : TypeId} (hd : ByteArray) (ty : Option Ty) (ps : List Ty) (p : Option Addr) (n c : Nat) (w : World) (hb : w.heap[b]? = some (.cells #[.string hd, x1, x2, x3, tyV ty, x5] t (0, 0)))
    (hn : ps.length = n) (hv : Vals w p (ps.map Ty.val)) (h1 : hd.toList = [116, 111] ∨ hd.toList = [115, 112, 108, 105, 116] → 1 ≤ n) (h2 : hd.toList = [108, 97, 109] → ty ≠ none) : Calls Tryz.prog 135 #[.pointer (some ⟨b, 0, none⟩), .slice p n c] w (BndPost (bndT hd.toList ty ps[0]?) w) := by
 by_cases c1 : hd.toList = [116, 111]
 ·cases ps with
  | nil => exact absurd (h1 (Or.inl c1)) (by rw [← hn]; simp)
  | cons x ps => exact bound_to hd ty x ps p n c w hb c1 hn hv
 by_cases c2 : hd.toList = [115, 112, 108, 105, 116]
 ·cases ps with
  | nil => exact absurd (h1 (Or.inr c2)) (by rw [← hn]; simp)
  | cons x ps => exact bound_split hd ty x ps p n c w hb c2 hn hv
 have c0 := (ces hb).1
 have c4 := (ces hb).2.2.2.2.1
 have e0 : (hd.toList == [116, 111]) = false := by simpa using c1
 have e1 : (hd.toList == [115, 112, 108, 105, 116]) = false := by simpa using c2
 by_cases c3 : hd.toList = [108, 97, 109]
 ·have e2 : (hd.toList == [108, 97, 109]) = true := by simpa using c3
  cases ty with
  | none => exact absurd rfl (h2 c3)
  | some u =>
   have HB := hid (show bndT hd.toList (some u) ps[0]? = some [u] by rw [c3]; rfl)
   obtain ⟨nu, vu, hu⟩ := u.val_iface
   have HU := hid hu
   simp only [tyV] at c4
   rw [hu] at c4
   clear hb hn hv h1 h2 c1 c2 c3 hu
   go_enter Tryz.func135, Tryz.ntmps135
   go_wp2_with fail
   go_ret2
   refine bndPost_yes HB.out _ _ rfl ?_ ((Below.refl _ _).alloc (Nat.le_refl _) _)
   show Vals _ _ [u.val]
   rw [HU.out]
   exact vao (hea _ _ _ rfl)
 by_cases c5 : hd.toList = [103, 101, 116]
 ·have e2 : (hd.toList == [108, 97, 109]) = false := by simpa using c3
  have e3 : (hd.toList == [103, 101, 116]) = true := by simpa using c5
  have HB := hid (show bndT hd.toList ty ps[0]? = some [.bit] by rw [c5]; rfl)
  clear hb hn hv h1 h2 c1 c2 c3 c5 c4
  go_enter Tryz.func135, Tryz.ntmps135
  go_wp2_with fail
  go_ret2
  exact bndPost_yes HB.out _ _ rfl (vao (hea _ _ _ rfl)) ((Below.refl _ _).alloc (Nat.le_refl _) _)
 have e2 : (hd.toList == [108, 97, 109]) = false := by simpa using c3
 have e3 : (hd.toList == [103, 101, 116]) = false := by simpa using c5
 have HB := hid (show bndT hd.toList ty ps[0]? = some [] by unfold bndT; rw [if_neg c1, if_neg c2, if_neg c3, if_neg c5])
 clear hb hn hv h1 h2 c1 c2 c3 c5 c4
 go_enter Tryz.func135, Tryz.ntmps135
 go_wp2_with fail
 go_ret2
 exact bndPost_yes HB.out _ _ rfl (fun i v h => by simp at h) (Below.refl _ _)
def Fro (o : Option Ty) (w : World) (e : Ending) (w' : World) : Prop :=
 Below w.heap.size w w' ∧ match o with
  | some t => e = .returned (.tuple #[t.val, .bool true])
  | none => ∃ v, e = .returned (.tuple #[v, .bool false])
theorem frm {o : Option Ty} {t : Ty} {w w' : World} {e : Ending} {v : Value} (ho : o = some t) (hv : t.val = v) (he : e = .returned (.tuple #[v, .bool true])) (hb : Below w.heap.size w w') : Fro o w e w' := by
 subst ho; exact ⟨hb, by rw [he, ← hv]⟩
theorem bel (w : World) (n : Nat) : Below w.heap.size w (w.drewN n) := ⟨rfl, rfl, rfl, Nat.le_refl _, fun _ _ => rfl⟩
theorem fro {o : Option Ty} {w w' : World} {e : Ending} {v : Value} (ho : o = none) (he : e = .returned (.tuple #[v, .bool false])) (hb : Below w.heap.size w w') : Fro o w e w' := by
 subst ho; exact ⟨hb, v, he⟩
theorem fromPost_if {o : Option Ty} {t : Ty} {c : Prop} [Decidable c] {w w' : World} {e : Ending} {v : Value} (ho : o = if c then some t else none) (hv : t.val = v) (he : e = .returned (.tuple #[v, .bool (decide c)])) (hb : Below w.heap.size w w') : Fro o w e w' := by
 by_cases hc : c
 ·rw [if_pos hc] at ho; rw [decide_eq_true hc] at he; exact frm ho hv he hb
 ·rw [if_neg hc] at ho; subst ho; rw [decide_eq_false hc] at he; exact ⟨hb, v, he⟩
theorem van {w : World} {b o : Nat} {l : List Value} (h : Vals w (some ⟨b, o, none⟩) l) (i : Nat) {v : Value} (hi : l[i]? = some v) : w.cell? ⟨b, o + i, none⟩ = some v := by
 obtain ⟨b', o', hp, hc⟩ := h i v hi
 simp only [Option.some.injEq, Addr.mk.injEq, and_true] at hp
 obtain ⟨rfl, rfl⟩ := hp
 exact hc
theorem from_name {b : Nat} {x2 x3 x5 : Value} {t : TypeId} (hd a : ByteArray) (ty : Option Ty) (env : List (ByteArray × Ty)) (pe p : Option Addr) (n c : Nat) (w : World) (hb : w.heap[b]? = some (.cells #[.string hd, .string a, x2, x3, tyV ty, x5] t (0, 0))) (hh : hd.toList = [110, 97, 109, 101])
     {w0 : World} {S : Nat → Prop} (he : EIn w0 S env pe) (hk : Kept w0 w) : Calls Tryz.prog 152 #[.pointer (some ⟨b, 0, none⟩), .slice p n c, .pointer pe] w (Fro (joinT hd.toList ty a.toList env none none none) w) := by
 have c0 := (ces hb).1
 have c1 := (ces hb).2.1
 have e0 : (hd.toList == [110, 97, 109, 101]) = true := by rw [hh]; rfl
 have HL := hid (fun W hk => look_any a he W hk)
 have HJ := hid (show joinT hd.toList ty a.toList env none none none = lookR a.toList env by rw [hh]; rfl)
 have HK := hid hk
 clear hb hh he hk
 cases hl : lookR a.toList env with
 | none =>
  rw [hl] at HL
  have HO := hid (HJ.out.trans hl)
  clear hl HJ
  go_enter Tryz.func152, Tryz.ntmps152
  go_wp2_with (go_at_call 47; refine (HL.out _ HK.out).mono ?_; rintro e w1 ⟨hp, rfl⟩; obtain ⟨rfl, _⟩ := hp.none; clear hp)
  go_ret2
  exact fro HO.out rfl (Below.refl _ _)
 | some y =>
  rw [hl] at HL
  have HO := hid (HJ.out.trans hl)
  obtain ⟨ny, vy, hy⟩ := y.val_iface
  have HY := hid hy
  clear hl HJ hy
  go_enter Tryz.func152, Tryz.ntmps152
  go_wp2_with (go_at_call 47; refine (HL.out _ HK.out).mono ?_; rintro e w1 ⟨hp, rfl⟩; obtain ⟨he1, _⟩ := hp.some; rw [HY.out] at he1; subst he1; clear hp)
  go_ret2
  exact frm HO.out HY.out rfl (Below.refl _ _)
theorem from_bit {b : Nat} {x2 x3 x5 : Value} {t : TypeId} (hd a : ByteArray) (ty : Option Ty) (env : List (ByteArray × Ty)) (pe p : Option Addr) (n c : Nat) (w : World) (hb : w.heap[b]? = some (.cells #[.string hd, .string a, x2, x3, tyV ty, x5] t (0, 0))) (hh : hd.toList = [98, 105, 116])
     : Calls Tryz.prog 152 #[.pointer (some ⟨b, 0, none⟩), .slice p n c, .pointer pe] w (Fro (joinT hd.toList ty a.toList env none none none) w) := by
 have c0 := (ces hb).1
 have e0 : (hd.toList == [110, 97, 109, 101]) = false := by rw [hh]; rfl
 have e1 : (hd.toList == [98, 105, 116]) = true := by rw [hh]; rfl
 have HJ := hid (show joinT hd.toList ty a.toList env none none none = some .bit by rw [hh]; rfl)
 clear hb hh
 go_enter Tryz.func152, Tryz.ntmps152
 go_wp2_with fail
 go_ret2
 exact frm HJ.out rfl rfl (Below.refl _ _)
theorem from_pair {b : Nat} {x2 x3 x5 : Value} {t : TypeId} (hd a : ByteArray) (ty : Option Ty) (env : List (ByteArray × Ty)) (x : Ty) (y : Ty) (pe p : Option Addr) (n c : Nat) (w : World) (hb : w.heap[b]? = some (.cells #[.string hd, .string a, x2, x3, tyV ty, x5] t (0, 0))) (hh : hd.toList = [112, 97, 105, 114])
    (hn : 2 = n) (hv : Vals w p (([x, y] : List Ty).map Ty.val)) : Calls Tryz.prog 152 #[.pointer (some ⟨b, 0, none⟩), .slice p n c, .pointer pe] w (Fro (joinT hd.toList ty a.toList env (some x) (some y) none) w) := by
 have c0 := (ces hb).1
 have e0 : (hd.toList == [110, 97, 109, 101]) = false := by rw [hh]; rfl
 have e1 : (hd.toList == [98, 105, 116]) = false := by rw [hh]; rfl
 have e2 : (hd.toList == [112, 97, 105, 114]) = true := by rw [hh]; rfl
 obtain ⟨vb, vo, rfl, hc0⟩ := vas hv
 have hc1 := van hv 1 rfl
 have i0 : 0 < n := by omega
 have i1 : 1 < n := by omega
 have HJ := hid (show joinT hd.toList ty a.toList env (some x) (some y) none = some (.pair x y) by rw [hh]; rfl)
 obtain ⟨nx, vx, hx⟩ := x.val_iface
 rw [hx] at hc0
 have Hx := hid hx
 clear hx
 obtain ⟨ny, vy, hy⟩ := y.val_iface
 rw [hy] at hc1
 have Hy := hid hy
 clear hy
 clear hb hh hn hv
 go_enter Tryz.func152, Tryz.ntmps152
 go_wp2_with fail
 go_quiet (fail)
 go_wp2_with fail
 go_ret2
 exact frm HJ.out (by simp only [Ty.val, Hx.out, Hy.out]; rfl) rfl (bel _ _)
theorem from_thunk {b : Nat} {x2 x3 x5 : Value} {t : TypeId} (hd a : ByteArray) (ty : Option Ty) (env : List (ByteArray × Ty)) (x : Ty) (pe p : Option Addr) (n c : Nat) (w : World) (hb : w.heap[b]? = some (.cells #[.string hd, .string a, x2, x3, tyV ty, x5] t (0, 0))) (hh : hd.toList = [116, 104, 117, 110, 107])
    (hn : 1 = n) (hv : Vals w p (([x] : List Ty).map Ty.val)) : Calls Tryz.prog 152 #[.pointer (some ⟨b, 0, none⟩), .slice p n c, .pointer pe] w (Fro (joinT hd.toList ty a.toList env (some x) none none) w) := by
 have c0 := (ces hb).1
 have e0 : (hd.toList == [110, 97, 109, 101]) = false := by rw [hh]; rfl
 have e1 : (hd.toList == [98, 105, 116]) = false := by rw [hh]; rfl
 have e2 : (hd.toList == [112, 97, 105, 114]) = false := by rw [hh]; rfl
 have e3 : (hd.toList == [116, 104, 117, 110, 107]) = true := by rw [hh]; rfl
 obtain ⟨vb, vo, rfl, hc0⟩ := vas hv
 have i0 : 0 < n := by omega
 have HJ := hid (show joinT hd.toList ty a.toList env (some x) none none = some (.thunk x) by rw [hh]; rfl)
 obtain ⟨nx, vx, hx⟩ := x.val_iface
 rw [hx] at hc0
 have Hx := hid hx
 clear hx
 clear hb hh hn hv
 go_enter Tryz.func152, Tryz.ntmps152
 go_wp2_with fail
 go_ret2
 exact frm HJ.out (by simp only [Ty.val, Hx.out]; rfl) rfl (Below.refl _ _)
theorem from_return {b : Nat} {x2 x3 x5 : Value} {t : TypeId} (hd a : ByteArray) (ty : Option Ty) (env : List (ByteArray × Ty)) (x : Ty) (pe p : Option Addr) (n c : Nat) (w : World) (hb : w.heap[b]? = some (.cells #[.string hd, .string a, x2, x3, tyV ty, x5] t (0, 0))) (hh : hd.toList = [114, 101, 116, 117, 114, 110])
    (hn : 1 = n) (hv : Vals w p (([x] : List Ty).map Ty.val)) : Calls Tryz.prog 152 #[.pointer (some ⟨b, 0, none⟩), .slice p n c, .pointer pe] w (Fro (joinT hd.toList ty a.toList env (some x) none none) w) := by
 have c0 := (ces hb).1
 have e0 : (hd.toList == [110, 97, 109, 101]) = false := by rw [hh]; rfl
 have e1 : (hd.toList == [98, 105, 116]) = false := by rw [hh]; rfl
 have e2 : (hd.toList == [112, 97, 105, 114]) = false := by rw [hh]; rfl
 have e3 : (hd.toList == [116, 104, 117, 110, 107]) = false := by rw [hh]; rfl
 have e4 : (hd.toList == [114, 101, 116, 117, 114, 110]) = true := by rw [hh]; rfl
 obtain ⟨vb, vo, rfl, hc0⟩ := vas hv
 have i0 : 0 < n := by omega
 have HJ := hid (show joinT hd.toList ty a.toList env (some x) none none = some (.ret x) by rw [hh]; rfl)
 obtain ⟨nx, vx, hx⟩ := x.val_iface
 rw [hx] at hc0
 have Hx := hid hx
 clear hx
 clear hb hh hn hv
 go_enter Tryz.func152, Tryz.ntmps152
 go_wp2_with fail
 go_ret2
 exact frm HJ.out (by simp only [Ty.val, Hx.out]; rfl) rfl (Below.refl _ _)
theorem from_to {b : Nat} {x2 x3 x5 : Value} {t : TypeId} (hd a : ByteArray) (ty : Option Ty) (env : List (ByteArray × Ty)) (x : Ty) (y : Ty) (pe p : Option Addr) (n c : Nat) (w : World) (hb : w.heap[b]? = some (.cells #[.string hd, .string a, x2, x3, tyV ty, x5] t (0, 0))) (hh : hd.toList = [116, 111])
    (hn : 2 = n) (hv : Vals w p (([x, y] : List Ty).map Ty.val)) : Calls Tryz.prog 152 #[.pointer (some ⟨b, 0, none⟩), .slice p n c, .pointer pe] w (Fro (joinT hd.toList ty a.toList env (some x) (some y) none) w) := by
 have c0 := (ces hb).1
 have e0 : (hd.toList == [110, 97, 109, 101]) = false := by rw [hh]; rfl
 have e1 : (hd.toList == [98, 105, 116]) = false := by rw [hh]; rfl
 have e2 : (hd.toList == [112, 97, 105, 114]) = false := by rw [hh]; rfl
 have e3 : (hd.toList == [116, 104, 117, 110, 107]) = false := by rw [hh]; rfl
 have e4 : (hd.toList == [114, 101, 116, 117, 114, 110]) = false := by rw [hh]; rfl
 have e5 : (hd.toList == [116, 111]) = true := by rw [hh]; rfl
 obtain ⟨vb, vo, rfl, hc0⟩ := vas hv
 have hc1 := van hv 1 rfl
 have i0 : 0 < n := by omega
 have i1 : 1 < n := by omega
 have HJ := hid (show joinT hd.toList ty a.toList env (some x) (some y) none = some (y) by rw [hh]; rfl)
 obtain ⟨nx, vx, hx⟩ := x.val_iface
 rw [hx] at hc0
 have Hx := hid hx
 clear hx
 obtain ⟨ny, vy, hy⟩ := y.val_iface
 rw [hy] at hc1
 have Hy := hid hy
 clear hy
 clear hb hh hn hv
 go_enter Tryz.func152, Tryz.ntmps152
 go_wp2_with fail
 go_ret2
 exact frm HJ.out (by simp only [Hy.out]; rfl) rfl (Below.refl _ _)
theorem from_split {b : Nat} {x2 x3 x5 : Value} {t : TypeId} (hd a : ByteArray) (ty : Option Ty) (env : List (ByteArray × Ty)) (x : Ty) (y : Ty) (pe p : Option Addr) (n c : Nat) (w : World) (hb : w.heap[b]? = some (.cells #[.string hd, .string a, x2, x3, tyV ty, x5] t (0, 0))) (hh : hd.toList = [115, 112, 108, 105, 116])
    (hn : 2 = n) (hv : Vals w p (([x, y] : List Ty).map Ty.val)) : Calls Tryz.prog 152 #[.pointer (some ⟨b, 0, none⟩), .slice p n c, .pointer pe] w (Fro (joinT hd.toList ty a.toList env (some x) (some y) none) w) := by
 have c0 := (ces hb).1
 have e0 : (hd.toList == [110, 97, 109, 101]) = false := by rw [hh]; rfl
 have e1 : (hd.toList == [98, 105, 116]) = false := by rw [hh]; rfl
 have e2 : (hd.toList == [112, 97, 105, 114]) = false := by rw [hh]; rfl
 have e3 : (hd.toList == [116, 104, 117, 110, 107]) = false := by rw [hh]; rfl
 have e4 : (hd.toList == [114, 101, 116, 117, 114, 110]) = false := by rw [hh]; rfl
 have e5 : (hd.toList == [116, 111]) = false := by rw [hh]; rfl
 have e6 : (hd.toList == [115, 112, 108, 105, 116]) = true := by rw [hh]; rfl
 obtain ⟨vb, vo, rfl, hc0⟩ := vas hv
 have hc1 := van hv 1 rfl
 have i0 : 0 < n := by omega
 have i1 : 1 < n := by omega
 have HJ := hid (show joinT hd.toList ty a.toList env (some x) (some y) none = some (y) by rw [hh]; rfl)
 obtain ⟨nx, vx, hx⟩ := x.val_iface
 rw [hx] at hc0
 have Hx := hid hx
 clear hx
 obtain ⟨ny, vy, hy⟩ := y.val_iface
 rw [hy] at hc1
 have Hy := hid hy
 clear hy
 clear hb hh hn hv
 go_enter Tryz.func152, Tryz.ntmps152
 go_wp2_with fail
 go_ret2
 exact frm HJ.out (by simp only [Hy.out]; rfl) rfl (Below.refl _ _)
theorem from_force {b : Nat} {x2 x3 x5 : Value} {t : TypeId} (hd a : ByteArray) (ty : Option Ty) (env : List (ByteArray × Ty)) (x : Ty) (pe p : Option Addr) (n c : Nat) (w : World) (hb : w.heap[b]? = some (.cells #[.string hd, .string a, x2, x3, tyV ty, x5] t (0, 0))) (hh : hd.toList = [102, 111, 114, 99, 101])
    (hn : 1 = n) (hv : Vals w p (([x] : List Ty).map Ty.val)) : Calls Tryz.prog 152 #[.pointer (some ⟨b, 0, none⟩), .slice p n c, .pointer pe] w (Fro (joinT hd.toList ty a.toList env (some x) none none) w) := by
 have c0 := (ces hb).1
 have e0 : (hd.toList == [110, 97, 109, 101]) = false := by rw [hh]; rfl
 have e1 : (hd.toList == [98, 105, 116]) = false := by rw [hh]; rfl
 have e2 : (hd.toList == [112, 97, 105, 114]) = false := by rw [hh]; rfl
 have e3 : (hd.toList == [116, 104, 117, 110, 107]) = false := by rw [hh]; rfl
 have e4 : (hd.toList == [114, 101, 116, 117, 114, 110]) = false := by rw [hh]; rfl
 have e5 : (hd.toList == [116, 111]) = false := by rw [hh]; rfl
 have e6 : (hd.toList == [115, 112, 108, 105, 116]) = false := by rw [hh]; rfl
 have e7 : (hd.toList == [102, 111, 114, 99, 101]) = true := by rw [hh]; rfl
 obtain ⟨vb, vo, rfl, hc0⟩ := vas hv
 have i0 : 0 < n := by omega
 have HJ := hid (show joinT hd.toList ty a.toList env (some x) none none = joinT [102, 111, 114, 99, 101] ty a.toList env (some x) none none by rw [hh])
 clear hb hh hn hv
 cases x with
 | bit =>
  simp only [Ty.val] at hc0
  have has1 := as_bit_thunk (.agg #[])
  go_enter Tryz.func152, Tryz.ntmps152
  go_wp2_with fail
  go_ret2
  exact fro (by rw [HJ.out]; rfl) rfl ((Below.refl _ _).alloc (Nat.le_refl _) _)
 | pair u v =>
  simp only [Ty.val] at hc0
  obtain ⟨nu, vu, hu⟩ := u.val_iface
  rw [hu] at hc0
  have Hu := hid hu
  clear hu
  obtain ⟨nv, vv, hv⟩ := v.val_iface
  rw [hv] at hc0
  have Hv := hid hv
  clear hv
  have has1 := as_pair_thunk (.agg #[.iface nu vu, .iface nv vv])
  go_enter Tryz.func152, Tryz.ntmps152
  go_wp2_with fail
  go_ret2
  exact fro (by rw [HJ.out]; rfl) rfl ((Below.refl _ _).alloc (Nat.le_refl _) _)
 | thunk u =>
  simp only [Ty.val] at hc0
  obtain ⟨nu, vu, hu⟩ := u.val_iface
  rw [hu] at hc0
  have Hu := hid hu
  clear hu
  have has1 := as_thunk_thunk (.agg #[.iface nu vu])
  go_enter Tryz.func152, Tryz.ntmps152
  go_wp2_with fail
  go_ret2
  exact frm (t := u) (by rw [HJ.out]; rfl) Hu.out rfl ((Below.refl _ _).alloc (Nat.le_refl _) _)
 | ret u =>
  simp only [Ty.val] at hc0
  obtain ⟨nu, vu, hu⟩ := u.val_iface
  rw [hu] at hc0
  have Hu := hid hu
  clear hu
  have has1 := as_ret_thunk (.agg #[.iface nu vu])
  go_enter Tryz.func152, Tryz.ntmps152
  go_wp2_with fail
  go_ret2
  exact fro (by rw [HJ.out]; rfl) rfl ((Below.refl _ _).alloc (Nat.le_refl _) _)
 | fn u v =>
  simp only [Ty.val] at hc0
  obtain ⟨nu, vu, hu⟩ := u.val_iface
  rw [hu] at hc0
  have Hu := hid hu
  clear hu
  obtain ⟨nv, vv, hv⟩ := v.val_iface
  rw [hv] at hc0
  have Hv := hid hv
  clear hv
  have has1 := as_fn_thunk (.agg #[.iface nu vu, .iface nv vv])
  go_enter Tryz.func152, Tryz.ntmps152
  go_wp2_with fail
  go_ret2
  exact fro (by rw [HJ.out]; rfl) rfl ((Below.refl _ _).alloc (Nat.le_refl _) _)
 | choice u v =>
  simp only [Ty.val] at hc0
  obtain ⟨nu, vu, hu⟩ := u.val_iface
  rw [hu] at hc0
  have Hu := hid hu
  clear hu
  obtain ⟨nv, vv, hv⟩ := v.val_iface
  rw [hv] at hc0
  have Hv := hid hv
  clear hv
  have has1 := as_choice_thunk (.agg #[.iface nu vu, .iface nv vv])
  go_enter Tryz.func152, Tryz.ntmps152
  go_wp2_with fail
  go_ret2
  exact fro (by rw [HJ.out]; rfl) rfl ((Below.refl _ _).alloc (Nat.le_refl _) _)
theorem from_lam {b : Nat} {x2 x3 x5 : Value} {t : TypeId} (hd a : ByteArray) (env : List (ByteArray × Ty)) (ty : Ty) (x : Ty) (pe p : Option Addr) (n c : Nat) (w : World) (hb : w.heap[b]? = some (.cells #[.string hd, .string a, x2, x3, tyV (some ty), x5] t (0, 0))) (hh : hd.toList = [108, 97, 109])
    (hn : 1 = n) (hv : Vals w p (([x] : List Ty).map Ty.val)) : Calls Tryz.prog 152 #[.pointer (some ⟨b, 0, none⟩), .slice p n c, .pointer pe] w (Fro (joinT hd.toList (some ty) a.toList env (some x) none none) w) := by
 have c0 := (ces hb).1
 have c4 := (ces hb).2.2.2.2.1
 simp only [tyV] at c4
 have e0 : (hd.toList == [110, 97, 109, 101]) = false := by rw [hh]; rfl
 have e1 : (hd.toList == [98, 105, 116]) = false := by rw [hh]; rfl
 have e2 : (hd.toList == [112, 97, 105, 114]) = false := by rw [hh]; rfl
 have e3 : (hd.toList == [116, 104, 117, 110, 107]) = false := by rw [hh]; rfl
 have e4 : (hd.toList == [114, 101, 116, 117, 114, 110]) = false := by rw [hh]; rfl
 have e5 : (hd.toList == [116, 111]) = false := by rw [hh]; rfl
 have e6 : (hd.toList == [115, 112, 108, 105, 116]) = false := by rw [hh]; rfl
 have e7 : (hd.toList == [102, 111, 114, 99, 101]) = false := by rw [hh]; rfl
 have e8 : (hd.toList == [108, 97, 109]) = true := by rw [hh]; rfl
 obtain ⟨vb, vo, rfl, hc0⟩ := vas hv
 have i0 : 0 < n := by omega
 have HJ := hid (show joinT hd.toList (some ty) a.toList env (some x) none none = some (.fn ty x) by rw [hh]; rfl)
 obtain ⟨nx, vx, hx⟩ := x.val_iface
 rw [hx] at hc0
 have Hx := hid hx
 clear hx
 obtain ⟨nty, vty, hty⟩ := ty.val_iface
 rw [hty] at c4
 have Hty := hid hty
 clear hty
 clear hb hh hn hv
 go_enter Tryz.func152, Tryz.ntmps152
 go_wp2_with fail
 go_quiet (fail)
 go_wp2_with fail
 go_ret2
 exact frm HJ.out (by simp only [Ty.val, Hx.out, Hty.out]; rfl) rfl (bel _ _)
theorem from_both {b : Nat} {x2 x3 x5 : Value} {t : TypeId} (hd a : ByteArray) (ty : Option Ty) (env : List (ByteArray × Ty)) (x : Ty) (y : Ty) (pe p : Option Addr) (n c : Nat) (w : World) (hb : w.heap[b]? = some (.cells #[.string hd, .string a, x2, x3, tyV ty, x5] t (0, 0))) (hh : hd.toList = [98, 111, 116, 104])
    (hn : 2 = n) (hv : Vals w p (([x, y] : List Ty).map Ty.val)) : Calls Tryz.prog 152 #[.pointer (some ⟨b, 0, none⟩), .slice p n c, .pointer pe] w (Fro (joinT hd.toList ty a.toList env (some x) (some y) none) w) := by
 have c0 := (ces hb).1
 have e0 : (hd.toList == [110, 97, 109, 101]) = false := by rw [hh]; rfl
 have e1 : (hd.toList == [98, 105, 116]) = false := by rw [hh]; rfl
 have e2 : (hd.toList == [112, 97, 105, 114]) = false := by rw [hh]; rfl
 have e3 : (hd.toList == [116, 104, 117, 110, 107]) = false := by rw [hh]; rfl
 have e4 : (hd.toList == [114, 101, 116, 117, 114, 110]) = false := by rw [hh]; rfl
 have e5 : (hd.toList == [116, 111]) = false := by rw [hh]; rfl
 have e6 : (hd.toList == [115, 112, 108, 105, 116]) = false := by rw [hh]; rfl
 have e7 : (hd.toList == [102, 111, 114, 99, 101]) = false := by rw [hh]; rfl
 have e8 : (hd.toList == [108, 97, 109]) = false := by rw [hh]; rfl
 have e9 : (hd.toList == [97, 112, 112]) = false := by rw [hh]; rfl
 have e10 : (hd.toList == [105, 102]) = false := by rw [hh]; rfl
 have e11 : (hd.toList == [98, 111, 116, 104]) = true := by rw [hh]; rfl
 obtain ⟨vb, vo, rfl, hc0⟩ := vas hv
 have hc1 := van hv 1 rfl
 have i0 : 0 < n := by omega
 have i1 : 1 < n := by omega
 have HJ := hid (show joinT hd.toList ty a.toList env (some x) (some y) none = some (.choice x y) by rw [hh]; rfl)
 obtain ⟨nx, vx, hx⟩ := x.val_iface
 rw [hx] at hc0
 have Hx := hid hx
 clear hx
 obtain ⟨ny, vy, hy⟩ := y.val_iface
 rw [hy] at hc1
 have Hy := hid hy
 clear hy
 clear hb hh hn hv
 go_enter Tryz.func152, Tryz.ntmps152
 go_wp2_with fail
 go_quiet (fail)
 go_wp2_with fail
 go_ret2
 exact frm HJ.out (by simp only [Ty.val, Hx.out, Hy.out]; rfl) rfl (bel _ _)
theorem from_fst {b : Nat} {x2 x3 x5 : Value} {t : TypeId} (hd a : ByteArray) (ty : Option Ty) (env : List (ByteArray × Ty)) (x : Ty) (pe p : Option Addr) (n c : Nat) (w : World) (hb : w.heap[b]? = some (.cells #[.string hd, .string a, x2, x3, tyV ty, x5] t (0, 0))) (hh : hd.toList = [102, 115, 116])
    (hn : 1 = n) (hv : Vals w p (([x] : List Ty).map Ty.val)) : Calls Tryz.prog 152 #[.pointer (some ⟨b, 0, none⟩), .slice p n c, .pointer pe] w (Fro (joinT hd.toList ty a.toList env (some x) none none) w) := by
 have c0 := (ces hb).1
 have e0 : (hd.toList == [110, 97, 109, 101]) = false := by rw [hh]; rfl
 have e1 : (hd.toList == [98, 105, 116]) = false := by rw [hh]; rfl
 have e2 : (hd.toList == [112, 97, 105, 114]) = false := by rw [hh]; rfl
 have e3 : (hd.toList == [116, 104, 117, 110, 107]) = false := by rw [hh]; rfl
 have e4 : (hd.toList == [114, 101, 116, 117, 114, 110]) = false := by rw [hh]; rfl
 have e5 : (hd.toList == [116, 111]) = false := by rw [hh]; rfl
 have e6 : (hd.toList == [115, 112, 108, 105, 116]) = false := by rw [hh]; rfl
 have e7 : (hd.toList == [102, 111, 114, 99, 101]) = false := by rw [hh]; rfl
 have e8 : (hd.toList == [108, 97, 109]) = false := by rw [hh]; rfl
 have e9 : (hd.toList == [97, 112, 112]) = false := by rw [hh]; rfl
 have e10 : (hd.toList == [105, 102]) = false := by rw [hh]; rfl
 have e11 : (hd.toList == [98, 111, 116, 104]) = false := by rw [hh]; rfl
 have e12 : (hd.toList == [102, 115, 116]) = true := by rw [hh]; rfl
 obtain ⟨vb, vo, rfl, hc0⟩ := vas hv
 have i0 : 0 < n := by omega
 have HJ := hid (show joinT hd.toList ty a.toList env (some x) none none = joinT [102, 115, 116] ty a.toList env (some x) none none by rw [hh])
 clear hb hh hn hv
 cases x with
 | bit =>
  simp only [Ty.val] at hc0
  have has1 := as_bit_choice (.agg #[])
  go_enter Tryz.func152, Tryz.ntmps152
  go_wp2_with fail
  go_ret2
  exact fro (by rw [HJ.out]; rfl) rfl ((Below.refl _ _).alloc (Nat.le_refl _) _)
 | pair u v =>
  simp only [Ty.val] at hc0
  obtain ⟨nu, vu, hu⟩ := u.val_iface
  rw [hu] at hc0
  have Hu := hid hu
  clear hu
  obtain ⟨nv, vv, hv⟩ := v.val_iface
  rw [hv] at hc0
  have Hv := hid hv
  clear hv
  have has1 := as_pair_choice (.agg #[.iface nu vu, .iface nv vv])
  go_enter Tryz.func152, Tryz.ntmps152
  go_wp2_with fail
  go_ret2
  exact fro (by rw [HJ.out]; rfl) rfl ((Below.refl _ _).alloc (Nat.le_refl _) _)
 | thunk u =>
  simp only [Ty.val] at hc0
  obtain ⟨nu, vu, hu⟩ := u.val_iface
  rw [hu] at hc0
  have Hu := hid hu
  clear hu
  have has1 := as_thunk_choice (.agg #[.iface nu vu])
  go_enter Tryz.func152, Tryz.ntmps152
  go_wp2_with fail
  go_ret2
  exact fro (by rw [HJ.out]; rfl) rfl ((Below.refl _ _).alloc (Nat.le_refl _) _)
 | ret u =>
  simp only [Ty.val] at hc0
  obtain ⟨nu, vu, hu⟩ := u.val_iface
  rw [hu] at hc0
  have Hu := hid hu
  clear hu
  have has1 := as_ret_choice (.agg #[.iface nu vu])
  go_enter Tryz.func152, Tryz.ntmps152
  go_wp2_with fail
  go_ret2
  exact fro (by rw [HJ.out]; rfl) rfl ((Below.refl _ _).alloc (Nat.le_refl _) _)
 | fn u v =>
  simp only [Ty.val] at hc0
  obtain ⟨nu, vu, hu⟩ := u.val_iface
  rw [hu] at hc0
  have Hu := hid hu
  clear hu
  obtain ⟨nv, vv, hv⟩ := v.val_iface
  rw [hv] at hc0
  have Hv := hid hv
  clear hv
  have has1 := as_fn_choice (.agg #[.iface nu vu, .iface nv vv])
  go_enter Tryz.func152, Tryz.ntmps152
  go_wp2_with fail
  go_ret2
  exact fro (by rw [HJ.out]; rfl) rfl ((Below.refl _ _).alloc (Nat.le_refl _) _)
 | choice u v =>
  simp only [Ty.val] at hc0
  obtain ⟨nu, vu, hu⟩ := u.val_iface
  rw [hu] at hc0
  have Hu := hid hu
  clear hu
  obtain ⟨nv, vv, hv⟩ := v.val_iface
  rw [hv] at hc0
  have Hv := hid hv
  clear hv
  have has1 := as_choice_choice (.agg #[.iface nu vu, .iface nv vv])
  go_enter Tryz.func152, Tryz.ntmps152
  go_wp2_with fail
  go_ret2
  exact frm (t := u) (by rw [HJ.out]; rfl) Hu.out rfl ((Below.refl _ _).alloc (Nat.le_refl _) _)
theorem from_snd {b : Nat} {x2 x3 x5 : Value} {t : TypeId} (hd a : ByteArray) (ty : Option Ty) (env : List (ByteArray × Ty)) (x : Ty) (pe p : Option Addr) (n c : Nat) (w : World) (hb : w.heap[b]? = some (.cells #[.string hd, .string a, x2, x3, tyV ty, x5] t (0, 0))) (hh : hd.toList = [115, 110, 100])
    (hn : 1 = n) (hv : Vals w p (([x] : List Ty).map Ty.val)) : Calls Tryz.prog 152 #[.pointer (some ⟨b, 0, none⟩), .slice p n c, .pointer pe] w (Fro (joinT hd.toList ty a.toList env (some x) none none) w) := by
 have c0 := (ces hb).1
 have e0 : (hd.toList == [110, 97, 109, 101]) = false := by rw [hh]; rfl
 have e1 : (hd.toList == [98, 105, 116]) = false := by rw [hh]; rfl
 have e2 : (hd.toList == [112, 97, 105, 114]) = false := by rw [hh]; rfl
 have e3 : (hd.toList == [116, 104, 117, 110, 107]) = false := by rw [hh]; rfl
 have e4 : (hd.toList == [114, 101, 116, 117, 114, 110]) = false := by rw [hh]; rfl
 have e5 : (hd.toList == [116, 111]) = false := by rw [hh]; rfl
 have e6 : (hd.toList == [115, 112, 108, 105, 116]) = false := by rw [hh]; rfl
 have e7 : (hd.toList == [102, 111, 114, 99, 101]) = false := by rw [hh]; rfl
 have e8 : (hd.toList == [108, 97, 109]) = false := by rw [hh]; rfl
 have e9 : (hd.toList == [97, 112, 112]) = false := by rw [hh]; rfl
 have e10 : (hd.toList == [105, 102]) = false := by rw [hh]; rfl
 have e11 : (hd.toList == [98, 111, 116, 104]) = false := by rw [hh]; rfl
 have e12 : (hd.toList == [102, 115, 116]) = false := by rw [hh]; rfl
 have e13 : (hd.toList == [115, 110, 100]) = true := by rw [hh]; rfl
 obtain ⟨vb, vo, rfl, hc0⟩ := vas hv
 have i0 : 0 < n := by omega
 have HJ := hid (show joinT hd.toList ty a.toList env (some x) none none = joinT [115, 110, 100] ty a.toList env (some x) none none by rw [hh])
 clear hb hh hn hv
 cases x with
 | bit =>
  simp only [Ty.val] at hc0
  have has1 := as_bit_choice (.agg #[])
  go_enter Tryz.func152, Tryz.ntmps152
  go_wp2_with fail
  go_ret2
  exact fro (by rw [HJ.out]; rfl) rfl ((Below.refl _ _).alloc (Nat.le_refl _) _)
 | pair u v =>
  simp only [Ty.val] at hc0
  obtain ⟨nu, vu, hu⟩ := u.val_iface
  rw [hu] at hc0
  have Hu := hid hu
  clear hu
  obtain ⟨nv, vv, hv⟩ := v.val_iface
  rw [hv] at hc0
  have Hv := hid hv
  clear hv
  have has1 := as_pair_choice (.agg #[.iface nu vu, .iface nv vv])
  go_enter Tryz.func152, Tryz.ntmps152
  go_wp2_with fail
  go_ret2
  exact fro (by rw [HJ.out]; rfl) rfl ((Below.refl _ _).alloc (Nat.le_refl _) _)
 | thunk u =>
  simp only [Ty.val] at hc0
  obtain ⟨nu, vu, hu⟩ := u.val_iface
  rw [hu] at hc0
  have Hu := hid hu
  clear hu
  have has1 := as_thunk_choice (.agg #[.iface nu vu])
  go_enter Tryz.func152, Tryz.ntmps152
  go_wp2_with fail
  go_ret2
  exact fro (by rw [HJ.out]; rfl) rfl ((Below.refl _ _).alloc (Nat.le_refl _) _)
 | ret u =>
  simp only [Ty.val] at hc0
  obtain ⟨nu, vu, hu⟩ := u.val_iface
  rw [hu] at hc0
  have Hu := hid hu
  clear hu
  have has1 := as_ret_choice (.agg #[.iface nu vu])
  go_enter Tryz.func152, Tryz.ntmps152
  go_wp2_with fail
  go_ret2
  exact fro (by rw [HJ.out]; rfl) rfl ((Below.refl _ _).alloc (Nat.le_refl _) _)
 | fn u v =>
  simp only [Ty.val] at hc0
  obtain ⟨nu, vu, hu⟩ := u.val_iface
  rw [hu] at hc0
  have Hu := hid hu
  clear hu
  obtain ⟨nv, vv, hv⟩ := v.val_iface
  rw [hv] at hc0
  have Hv := hid hv
  clear hv
  have has1 := as_fn_choice (.agg #[.iface nu vu, .iface nv vv])
  go_enter Tryz.func152, Tryz.ntmps152
  go_wp2_with fail
  go_ret2
  exact fro (by rw [HJ.out]; rfl) rfl ((Below.refl _ _).alloc (Nat.le_refl _) _)
 | choice u v =>
  simp only [Ty.val] at hc0
  obtain ⟨nu, vu, hu⟩ := u.val_iface
  rw [hu] at hc0
  have Hu := hid hu
  clear hu
  obtain ⟨nv, vv, hv⟩ := v.val_iface
  rw [hv] at hc0
  have Hv := hid hv
  clear hv
  have has1 := as_choice_choice (.agg #[.iface nu vu, .iface nv vv])
  go_enter Tryz.func152, Tryz.ntmps152
  go_wp2_with fail
  go_ret2
  exact frm (t := v) (by rw [HJ.out]; rfl) Hv.out rfl ((Below.refl _ _).alloc (Nat.le_refl _) _)
theorem from_get {b : Nat} {x2 x3 x5 : Value} {t : TypeId} (hd a : ByteArray) (ty : Option Ty) (env : List (ByteArray × Ty)) (x : Ty) (pe p : Option Addr) (n c : Nat) (w : World) (hb : w.heap[b]? = some (.cells #[.string hd, .string a, x2, x3, tyV ty, x5] t (0, 0))) (hh : hd.toList = [103, 101, 116])
    (hn : 1 = n) (hv : Vals w p (([x] : List Ty).map Ty.val)) : Calls Tryz.prog 152 #[.pointer (some ⟨b, 0, none⟩), .slice p n c, .pointer pe] w (Fro (joinT hd.toList ty a.toList env (some x) none none) w) := by
 have c0 := (ces hb).1
 have e0 : (hd.toList == [110, 97, 109, 101]) = false := by rw [hh]; rfl
 have e1 : (hd.toList == [98, 105, 116]) = false := by rw [hh]; rfl
 have e2 : (hd.toList == [112, 97, 105, 114]) = false := by rw [hh]; rfl
 have e3 : (hd.toList == [116, 104, 117, 110, 107]) = false := by rw [hh]; rfl
 have e4 : (hd.toList == [114, 101, 116, 117, 114, 110]) = false := by rw [hh]; rfl
 have e5 : (hd.toList == [116, 111]) = false := by rw [hh]; rfl
 have e6 : (hd.toList == [115, 112, 108, 105, 116]) = false := by rw [hh]; rfl
 have e7 : (hd.toList == [102, 111, 114, 99, 101]) = false := by rw [hh]; rfl
 have e8 : (hd.toList == [108, 97, 109]) = false := by rw [hh]; rfl
 have e9 : (hd.toList == [97, 112, 112]) = false := by rw [hh]; rfl
 have e10 : (hd.toList == [105, 102]) = false := by rw [hh]; rfl
 have e11 : (hd.toList == [98, 111, 116, 104]) = false := by rw [hh]; rfl
 have e12 : (hd.toList == [102, 115, 116]) = false := by rw [hh]; rfl
 have e13 : (hd.toList == [115, 110, 100]) = false := by rw [hh]; rfl
 have e14 : (hd.toList == [103, 101, 116]) = true := by rw [hh]; rfl
 obtain ⟨vb, vo, rfl, hc0⟩ := vas hv
 have i0 : 0 < n := by omega
 have HJ := hid (show joinT hd.toList ty a.toList env (some x) none none = some (x) by rw [hh]; rfl)
 obtain ⟨nx, vx, hx⟩ := x.val_iface
 rw [hx] at hc0
 have Hx := hid hx
 clear hx
 clear hb hh hn hv
 go_enter Tryz.func152, Tryz.ntmps152
 go_wp2_with fail
 go_ret2
 exact frm HJ.out (by simp only [Hx.out]; rfl) rfl (Below.refl _ _)
theorem from_fail {b : Nat} {x2 x3 x5 : Value} {t : TypeId} (hd a : ByteArray) (env : List (ByteArray × Ty)) (ty : Ty) (pe p : Option Addr) (n c : Nat) (w : World) (hb : w.heap[b]? = some (.cells #[.string hd, .string a, x2, x3, tyV (some ty), x5] t (0, 0))) (hh : hd.toList = [102, 97, 105, 108])
     : Calls Tryz.prog 152 #[.pointer (some ⟨b, 0, none⟩), .slice p n c, .pointer pe] w (Fro (joinT hd.toList (some ty) a.toList env none none none) w) := by
 have c0 := (ces hb).1
 have c4 := (ces hb).2.2.2.2.1
 simp only [tyV] at c4
 have e0 : (hd.toList == [110, 97, 109, 101]) = false := by rw [hh]; rfl
 have e1 : (hd.toList == [98, 105, 116]) = false := by rw [hh]; rfl
 have e2 : (hd.toList == [112, 97, 105, 114]) = false := by rw [hh]; rfl
 have e3 : (hd.toList == [116, 104, 117, 110, 107]) = false := by rw [hh]; rfl
 have e4 : (hd.toList == [114, 101, 116, 117, 114, 110]) = false := by rw [hh]; rfl
 have e5 : (hd.toList == [116, 111]) = false := by rw [hh]; rfl
 have e6 : (hd.toList == [115, 112, 108, 105, 116]) = false := by rw [hh]; rfl
 have e7 : (hd.toList == [102, 111, 114, 99, 101]) = false := by rw [hh]; rfl
 have e8 : (hd.toList == [108, 97, 109]) = false := by rw [hh]; rfl
 have e9 : (hd.toList == [97, 112, 112]) = false := by rw [hh]; rfl
 have e10 : (hd.toList == [105, 102]) = false := by rw [hh]; rfl
 have e11 : (hd.toList == [98, 111, 116, 104]) = false := by rw [hh]; rfl
 have e12 : (hd.toList == [102, 115, 116]) = false := by rw [hh]; rfl
 have e13 : (hd.toList == [115, 110, 100]) = false := by rw [hh]; rfl
 have e14 : (hd.toList == [103, 101, 116]) = false := by rw [hh]; rfl
 have e15 : (hd.toList == [112, 117, 116]) = false := by rw [hh]; rfl
 have e16 : (hd.toList == [102, 97, 105, 108]) = true := by rw [hh]; rfl
 have HJ := hid (show joinT hd.toList (some ty) a.toList env none none none = some (ty) by rw [hh]; rfl)
 obtain ⟨nty, vty, hty⟩ := ty.val_iface
 rw [hty] at c4
 have Hty := hid hty
 clear hty
 clear hb hh
 go_enter Tryz.func152, Tryz.ntmps152
 go_wp2_with fail
 go_ret2
 exact frm HJ.out (by simp only [Hty.out]; rfl) rfl (Below.refl _ _)
mutual
def Tree.flt (env : List (ByteArray × Ty)) : Tree → Option Tree
 | .atom s => if (Tree.typ env (.atom s)).isSome = true then none else some (.atom s)
 | .node [] => none
 | .node (q :: ps) => if (Tree.typ env (.node (q :: ps))).isSome = true then none else
     some (Tree.flts (.node (q :: ps)) q.text.toList (tyIn (shape q.text.toList) ps) (xsOf (shape q.text.toList) ps) env none (shape q.text.toList) ps)
def Tree.flts (self : Tree) (h : List UInt8) (ty : Option Ty) (xs : List ByteArray) (env : List (ByteArray × Ty)) (first : Option Ty) : List Sg → List Tree → Tree
 | [], _ => self
 | _ :: _, [] => self
 | c :: cs, p :: ps => if c.isK = true then
     match (if cs.isEmpty = true then bndT h ty first else some []) with
     | none => self
     | some bts => match Tree.flt (enw env (if cs.isEmpty = true then xs else []) bts) p with
      | some f => f
      | none => Tree.flts self h ty xs env (if first.isSome = true then first else Tree.typ env p) cs ps
  else Tree.flts self h ty xs env first cs ps
end
mutual
theorem flt_none : ∀ (m : Tm) (env : List (ByteArray × Ty)), m.flt env = none → (m.typ env).isSome = true
 | .mk hd a d bs ty ks, env, h => by
  rw [Tm.flt] at h
  obtain ⟨l, h1, h2⟩ := flts_none (.mk hd a d bs ty ks) hd.toList a.toList ty bs env ks [] h
  rw [Tm.typ, h1]; exact h2
theorem flts_none (self : Tm) (h a : List UInt8) (ty : Option Ty) (bs : List ByteArray) (env : List (ByteArray × Ty)) : ∀ (ks : List Tm) (acc : List Ty), Tm.flts self h a ty bs env acc ks = none → ∃ l, Tm.typs h ty bs env acc ks = some l ∧ (limT (joinT h ty a env l[0]? l[1]? l[2]?)).isSome = true
 | [], acc, hh => by
  rw [Tm.flts] at hh
  by_cases c : (limT (joinT h ty a env acc[0]? acc[1]? acc[2]?)).isSome = true
  ·exact ⟨acc, by rw [Tm.typs], c⟩
  ·rw [if_neg c] at hh; cases hh
 | k :: ks, acc, hh => by
  rw [Tm.flts] at hh
  rw [Tm.typs]
  cases hb : (if ks.isEmpty = true then bndT h ty acc[0]? else some []) with
  | none => rw [hb] at hh; simp at hh
  | some bts =>
   rw [hb] at hh; simp only at hh ⊢
   cases hk : Tm.typ (enw env (if ks.isEmpty = true then bs else []) bts) k with
   | none =>
    rw [hk] at hh; simp only at hh
    have := flt_none k _ hh
    rw [hk] at this; cases this
   | some t => rw [hk] at hh; simp only at hh ⊢; exact flts_none self h a ty bs env ks (acc ++ [t]) hh
end
mutual
theorem flt_some : ∀ (m : Tm) (env : List (ByteArray × Ty)) (f : Tm), m.flt env = some f → m.typ env = none
 | .mk hd a d bs ty ks, env, f, h => by
  rw [Tm.flt] at h
  have := flts_some (.mk hd a d bs ty ks) hd.toList a.toList ty bs env ks [] f h
  rw [Tm.typ]
  cases ht : Tm.typs hd.toList ty bs env [] ks with
  | none => rfl
  | some l => exact this l ht
theorem flts_some (self : Tm) (h a : List UInt8) (ty : Option Ty) (bs : List ByteArray) (env : List (ByteArray × Ty)) : ∀ (ks : List Tm) (acc : List Ty) (f : Tm), Tm.flts self h a ty bs env acc ks = some f → ∀ l, Tm.typs h ty bs env acc ks = some l → limT (joinT h ty a env l[0]? l[1]? l[2]?) = none
 | [], acc, f, hh, l, hl => by
  rw [Tm.flts] at hh
  rw [Tm.typs] at hl
  obtain rfl := Option.some.inj hl
  by_cases c : (limT (joinT h ty a env acc[0]? acc[1]? acc[2]?)).isSome = true
  ·rw [if_pos c] at hh; cases hh
  ·exact Option.not_isSome_iff_eq_none.1 c
 | k :: ks, acc, f, hh, l, hl => by
  rw [Tm.flts] at hh
  rw [Tm.typs] at hl
  cases hb : (if ks.isEmpty = true then bndT h ty acc[0]? else some []) with
  | none => rw [hb] at hl; simp at hl
  | some bts =>
   rw [hb] at hh hl; simp only at hh hl
   cases hk : Tm.typ (enw env (if ks.isEmpty = true then bs else []) bts) k with
   | none => rw [hk] at hl; simp at hl
   | some t => rw [hk] at hh hl; simp only at hh hl; exact flts_some self h a ty bs env ks (acc ++ [t]) f hh l hl
end
def FltRel (env : List (ByteArray × Ty)) (t : Tree) (m : Tm) : Prop := match t.flt env with
 | none => (m.typ env).isSome = true
 | some tr => m.typ env = none ∧ ∃ f ar, m.flt env = some f ∧ tr.tm ar = some f
theorem FltRel.typed {env : List (ByteArray × Ty)} {t : Tree} {m : Tm} {ty : Ty} (h : FltRel env t m) (ht : m.typ env = some ty) : t.flt env = none := by
 unfold FltRel at h
 cases hf : t.flt env with
 | none => rfl
 | some tr => rw [hf] at h; rw [ht] at h; cases h.1
theorem FltRel.fault {env : List (ByteArray × Ty)} {t : Tree} {m f : Tm} (h : FltRel env t m) (hf : m.flt env = some f) : ∃ tr ar, t.flt env = some tr ∧ tr.tm ar = some f := by
 unfold FltRel at h
 cases ht : t.flt env with
 | none => rw [ht] at h; simp only at h; rw [flt_some m env f hf] at h; cases h
 | some tr =>
  rw [ht] at h
  obtain ⟨_, f', ar, h1, h2⟩ := h
  rw [hf] at h1; obtain rfl := Option.some.inj h1
  exact ⟨tr, ar, rfl, h2⟩
theorem parts_flt (ar : List ByteArray) (h a : List UInt8) (ty : Option Ty) (xs : List ByteArray) (env : List (ByteArray × Ty)) (self : Tm) (T : Tree) (arT : List ByteArray) (hT : T.tm arT = some self) : ∀ (cs : List Sg) (ps : List Tree) (st st' : St) (acc : List Ty) (nk : List Tm) (f : Tm),
    (∀ p ∈ ps, ∀ ar m env, p.tm ar = some m → FltRel env p m) → cs.length = ps.length → endK cs = true → Tree.parts ar cs ps st = some st' → st'.kids = st.kids ++ nk → nk.length = cs.countP Sg.isK →
    Tm.flts self h a ty xs env acc nk = some f → ∃ ar', (Tree.flts T h ty xs env acc[0]? cs ps).tm ar' = some f
 | [], [], st, st', acc, nk, f, _, _, _, hp, hk, hn, hf => by
  have : nk = [] := List.eq_nil_of_length_eq_zero (by simpa using hn)
  subst this
  rw [Tm.flts] at hf
  split at hf
  ·cases hf
  ·obtain rfl := Option.some.inj hf
   refine ⟨arT, ?_⟩
   rw [Tree.flts]; exact hT
 | c :: cs, p :: ps, st, st', acc, nk, f, ih, hl, he, hp, hkk, hn, hf => by
  have ih' : ∀ p ∈ ps, ∀ ar m env, p.tm ar = some m → FltRel env p m := fun q hq => ih q (List.mem_cons_of_mem _ hq)
  have hl' : cs.length = ps.length := by simpa using hl
  have he' := endK_tail he
  have other : c.isK = false → ∀ st1, st1.kids = st.kids → Tree.parts ar cs ps st1 = some st' → ∃ ar', (Tree.flts T h ty xs env acc[0]? (c :: cs) (p :: ps)).tm ar' = some f := by
   intro hk st1 h1 h2
   rw [Tree.flts, if_neg (by rw [hk]; simp)]
   exact parts_flt ar h a ty xs env self T arT hT cs ps st1 st' acc nk f ih' hl' he' h2 (by rw [hkk, h1]) (by rw [hn, List.countP_cons, hk]; simp) hf
  have kid : ∀ v, c.isK = true → ∀ st1, addK v (p.tm (ar ++ st.binds)) st = some st1 → Tree.parts ar cs ps st1 = some st' → ∃ ar', (Tree.flts T h ty xs env acc[0]? (c :: cs) (p :: ps)).tm ar' = some f := by
   intro v hk st1 h1 h2
   obtain ⟨m, ht, h3⟩ := adk h1
   have hm := fun env => ih p (List.mem_cons_self ..) _ _ env ht
   obtain ⟨nk0, d1, d2, _⟩ := parts_typ ar h ty xs env cs ps st1 st' [] (fun p hp ar m env => tm_typ p ar m env) hl' he' h2
   have dk : nk = m :: nk0 := by
    rw [d1, h3] at hkk
    have : st.kids ++ nk = st.kids ++ (m :: nk0) := by rw [← hkk]; simp
    exact List.append_cancel_left this
   subst dk
   have hlast : nk0.isEmpty = cs.isEmpty := by
    cases cs with
    | nil => simp at d2; subst d2; rfl
    | cons d cs =>
     have := endK_pos _ he' (by simp)
     cases nk0 with
     | nil => rw [← d2] at this; simp at this
     | cons => rfl
   rw [Tm.flts, hlast] at hf
   rw [Tree.flts, if_pos hk]
   cases hb : (if cs.isEmpty = true then bndT h ty acc[0]? else some []) with
   | none =>
    rw [hb] at hf; simp only at hf ⊢
    obtain rfl := Option.some.inj hf
    exact ⟨arT, hT⟩
   | some bts =>
    rw [hb] at hf; simp only at hf ⊢
    obtain ⟨env', henv⟩ : ∃ env', enw env (if cs.isEmpty = true then xs else []) bts = env' := ⟨_, rfl⟩
    rw [henv] at hf ⊢
    cases hq : m.typ env' with
    | none =>
     rw [hq] at hf; simp only at hf
     obtain ⟨tr, ar', e1, e2⟩ := (hm env').fault hf
     rw [e1]; exact ⟨ar', e2⟩
    | some t =>
     rw [hq] at hf; simp only at hf
     rw [(hm env').typed hq]
     simp only
     have d3 : st'.kids = st1.kids ++ nk0 := d1
     obtain ⟨ar', e⟩ := parts_flt ar h a ty xs env self T arT hT cs ps st1 st' (acc ++ [t]) nk0 f ih' hl' he' h2 d3 d2 hf
     cases cs with
     | nil =>
      refine ⟨ar', ?_⟩
      rw [Tree.flts] at e ⊢; exact e
     | cons d cs =>
      have hb2 : bts = [] := by simp at hb; exact hb
      subst hb2
      have henv2 : env' = env := by rw [← henv]; rfl
      subst henv2
      have hpt : p.typ env' = some t := by rw [← tm_typ p _ m env' ht]; exact hq
      refine ⟨ar', ?_⟩
      have hfst : (if (acc[0]?).isSome = true then acc[0]? else Tree.typ env' p) = (acc ++ [t])[0]? := by
       cases acc with
       | nil => rw [if_neg (by simp), hpt]; rfl
       | cons x acc => rfl
      rw [hfst]; exact e
  cases c with
  | X =>
   rw [Tree.parts] at hp
   cases h1 : addX p.text st with
   | none => rw [h1] at hp; simp at hp
   | some st1 => rw [h1] at hp; exact other rfl st1 (by rw [(adx h1).2]) hp
  | A =>
   rw [Tree.parts] at hp
   cases h1 : addT true p st with
   | none => rw [h1] at hp; simp at hp
   | some st1 => rw [h1] at hp; obtain ⟨ty, _, h2⟩ := adt h1; exact other rfl st1 (by rw [h2]) hp
  | C =>
   rw [Tree.parts] at hp
   cases h1 : addT false p st with
   | none => rw [h1] at hp; simp at hp
   | some st1 => rw [h1] at hp; obtain ⟨ty, _, h2⟩ := adt h1; exact other rfl st1 (by rw [h2]) hp
  | V =>
   rw [Tree.parts] at hp
   cases h1 : addK true (p.tm (ar ++ st.binds)) st with
   | none => rw [h1] at hp; simp at hp
   | some st1 => rw [h1] at hp; exact kid true rfl st1 h1 hp
  | M =>
   rw [Tree.parts] at hp
   cases h1 : addK false (p.tm (ar ++ st.binds)) st with
   | none => rw [h1] at hp; simp at hp
   | some st1 => rw [h1] at hp; exact kid false rfl st1 h1 hp
theorem tm_flt (t : Tree) (ar : List ByteArray) (m : Tm) (env : List (ByteArray × Ty)) (h : t.tm ar = some m) : FltRel env t m := by
 have hty := tm_typ t ar m env h
 match t, h, hty with
 | .atom s, h, hty =>
  unfold FltRel
  rw [Tree.flt]
  by_cases c : (Tree.typ env (.atom s)).isSome = true
  ·rw [if_pos c]; show (m.typ env).isSome = true; rw [hty]; exact c
  ·rw [if_neg c]
   have hn : m.typ env = none := by rw [hty]; exact Option.not_isSome_iff_eq_none.1 c
   refine ⟨hn, ?_⟩
   have hk : ∃ hd a d bs ty, m = .mk hd a d bs ty [] := by
    rw [Tree.tm, atomTm] at h
    split at h
    ·simp at h; subst h; exact ⟨_, _, _, _, _, rfl⟩
    ·split at h
     ·simp at h; subst h; exact ⟨_, _, _, _, _, rfl⟩
     ·simp at h
   obtain ⟨hd, a, d, bs, ty, rfl⟩ := hk
   refine ⟨_, ar, ?_, h⟩
   cases hf : Tm.flt env (.mk hd a d bs ty []) with
   | none => have := flt_none _ _ hf; rw [hn] at this; cases this
   | some f =>
    rw [Tm.flt, Tm.flts] at hf
    split at hf
    ·cases hf
    ·exact hf.symm
 | .node [], h, _ => rw [Tree.tm] at h; simp at h
 | .node (q :: ps), h, hty =>
  unfold FltRel
  rw [Tree.flt]
  by_cases c : (Tree.typ env (.node (q :: ps))).isSome = true
  ·rw [if_pos c]; show (m.typ env).isSome = true; rw [hty]; exact c
  ·rw [if_neg c]
   have hn : m.typ env = none := by rw [hty]; exact Option.not_isSome_iff_eq_none.1 c
   refine ⟨hn, ?_⟩
   have hself := h
   obtain ⟨st, h1, h2, h3, hm⟩ := tmn h
   have h4 := pay ar _ ps St.none st h2 (she _) h3
   have hb : st.binds = xsOf (shape q.text.toList) ps := by rw [h4.2]; rfl
   have ht : st.ty = tyIn (shape q.text.toList) ps := by rw [h4.1]; rfl
   cases hf : m.flt env with
   | none => have := flt_none _ _ hf; rw [hn] at this; cases this
   | some f =>
    rcases shape_end q.text.toList with he | he
    ·obtain ⟨nk, e1, e2, _⟩ := parts_typ ar q.text.toList (tyIn (shape q.text.toList) ps) (xsOf (shape q.text.toList) ps) env _ ps St.none st [] (fun p hp ar m env => tm_typ p ar m env) h2 he h3
     have hk : st.kids = nk := by rw [e1]; rfl
     have hf2 := hf
     rw [hm, Tm.flt, hb, ht, hk] at hf2
     obtain ⟨ar', e⟩ := parts_flt ar q.text.toList _ (tyIn (shape q.text.toList) ps) (xsOf (shape q.text.toList) ps) env _ (.node (q :: ps)) ar (by rw [← hb, ← ht, ← hk, ← hm]; exact hself) _ ps St.none st [] nk f (fun p hp ar m env => tm_flt p ar m env) h2 he h3 e1 e2 hf2
     exact ⟨f, ar', rfl, e⟩
    ·rw [he] at h2 h3 ⊢
     match ps, h2, hself with
     | [p], _, hself =>
      rw [Tree.parts] at h3
      cases h5 : addT false p St.none with
      | none => rw [h5] at h3; simp at h3
      | some st1 =>
       rw [h5] at h3; simp [Tree.parts] at h3; subst h3
       obtain ⟨ty, hty2, h6⟩ := adt h5
       have hk : st1.kids = [] := by rw [h6]; rfl
       refine ⟨f, ar, rfl, ?_⟩
       rw [Tree.flts, if_neg (by simp [Sg.isK])]
       unfold Tree.flts
       rw [hself]
       rw [hm, Tm.flt, hk, Tm.flts] at hf
       split at hf
       ·cases hf
       ·rw [hm, hk]; exact hf
termination_by t
decreasing_by
 have := List.sizeOf_lt_of_mem hp
 simp; omega
end Go.Proofs.YtfogjomebcponaaGreatDoor
