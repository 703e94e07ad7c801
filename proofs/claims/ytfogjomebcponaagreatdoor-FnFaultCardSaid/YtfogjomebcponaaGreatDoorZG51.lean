/- Merged: WriteT, OfPur, OfS, OfX1. -/
import Derived.Lib.ConvBytes
import Derived.Test.YtfogjomebcponaaGreatDoorZGSBldW
import Derived.Test.YtfogjomebcponaaGreatDoorZG18
import Derived.Test.YtfogjomebcponaaGreatDoorZG22
namespace Go.Proofs.YtfogjomebcponaaGreatDoor
open Go.RowKit
set_option maxRecDepth 100000
set_option maxHeartbeats 8000000
def Sg.isX : Sg → Bool
 | .X => true
 | _ => false
mutual
def Tm.fit : Tm → Prop
 | .mk hd a _ bs ty ks => (a.toList = [] → bs.length = (shape hd.toList).countP Sg.isX ∧ ks.length = (shape hd.toList).countP Sg.isK ∧ ((shape hd.toList).countP Sg.isT ≠ 0 → ty ≠ none)) ∧ Tm.fits ks
def Tm.fits : List Tm → Prop
 | [] => True
 | k :: ks => k.fit ∧ Tm.fits ks
end
theorem tmfits_get : ∀ (ks : List Tm) (i : Nat) (k : Tm), Tm.fits ks → ks[i]? = some k → k.fit
 | [], i, k, _, h => by simp at h
 | x :: ks, i, k, hf, h => by
  rw [Tm.fits] at hf
  cases i with
  | zero => simp at h; subst h; exact hf.1
  | succ i => exact tmfits_get ks i k hf.2 (by simpa using h)
theorem tmfits_append (a b : List Tm) : Tm.fits (a ++ b) ↔ Tm.fits a ∧ Tm.fits b := by
 induction a with
 | nil => simp [Tm.fits]
 | cons x a ih => simp only [List.cons_append, Tm.fits, ih, and_assoc]
theorem writes_get {ks : List Tm} {i : Nat} {k : Tm} (h : ks[i]? = some k) : (Tm.writes ks)[i]? = some k.write := by
 induction ks generalizing i with
 | nil => simp at h
 | cons x ks ih =>
  cases i with
  | zero => simp at h; subst h; simp [Tm.writes]
  | succ i => simpa [Tm.writes] using ih (by simpa using h)
theorem parts_fit (ar : List ByteArray) : ∀ (cs : List Sg) (ps : List Tree) (st st' : St), (∀ p ∈ ps, ∀ ar m, p.tm ar = some m → m.fit) → cs.length = ps.length → Tm.fits st.kids →
    Tree.parts ar cs ps st = some st' → st'.binds.length = st.binds.length + cs.countP Sg.isX ∧ st'.kids.length = st.kids.length + cs.countP Sg.isK ∧ (cs.countP Sg.isT ≠ 0 → st'.ty ≠ none) ∧ (st.ty ≠ none → st'.ty ≠ none) ∧ Tm.fits st'.kids
 | [], [], st, st', _, _, hf, h => by simp [Tree.parts] at h; subst h; simp [hf]
 | c :: cs, p :: ps, st, st', ih, hl, hf, h => by
  have ih' : ∀ p ∈ ps, ∀ ar m, p.tm ar = some m → m.fit := fun q hq => ih q (List.mem_cons_of_mem _ hq)
  have hl' : cs.length = ps.length := by simpa using hl
  cases c with
  | X =>
   rw [Tree.parts] at h
   cases h1 : addX p.text st with
   | none => rw [h1] at h; simp at h
   | some st1 =>
    rw [h1] at h
    have h2 := (adx h1).2
    obtain ⟨e1, e2, e3, e4, e5⟩ := parts_fit ar cs ps st1 st' ih' hl' (by rw [h2]; exact hf) h
    rw [h2] at e1 e2 e4
    simp only [List.countP_cons, Sg.isX, Sg.isK, Sg.isT, List.length_append, List.length_cons, List.length_nil] at *
    exact ⟨by simp at *; omega, by simp at *; omega, by simpa using e3, e4, e5⟩
  | A =>
   rw [Tree.parts] at h
   cases h1 : addT true p st with
   | none => rw [h1] at h; simp at h
   | some st1 =>
    rw [h1] at h
    obtain ⟨ty, _, h2⟩ := adt h1
    obtain ⟨e1, e2, e3, e4, e5⟩ := parts_fit ar cs ps st1 st' ih' hl' (by rw [h2]; exact hf) h
    rw [h2] at e1 e2 e4
    have e6 := e4 (by simp)
    simp only [List.countP_cons, Sg.isX, Sg.isK, Sg.isT] at *
    exact ⟨by simp at *; omega, by simp at *; omega, fun _ => e6, fun _ => e6, e5⟩
  | C =>
   rw [Tree.parts] at h
   cases h1 : addT false p st with
   | none => rw [h1] at h; simp at h
   | some st1 =>
    rw [h1] at h
    obtain ⟨ty, _, h2⟩ := adt h1
    obtain ⟨e1, e2, e3, e4, e5⟩ := parts_fit ar cs ps st1 st' ih' hl' (by rw [h2]; exact hf) h
    rw [h2] at e1 e2 e4
    have e6 := e4 (by simp)
    simp only [List.countP_cons, Sg.isX, Sg.isK, Sg.isT] at *
    exact ⟨by simp at *; omega, by simp at *; omega, fun _ => e6, fun _ => e6, e5⟩
  | V =>
   rw [Tree.parts] at h
   cases h1 : addK true (p.tm (ar ++ st.binds)) st with
   | none => rw [h1] at h; simp at h
   | some st1 =>
    rw [h1] at h
    obtain ⟨m, ht, h2⟩ := adk h1
    have hm := ih p (List.mem_cons_self ..) _ _ ht
    obtain ⟨e1, e2, e3, e4, e5⟩ := parts_fit ar cs ps st1 st' ih' hl' (by rw [h2]; exact (tmfits_append _ _).2 ⟨hf, hm, trivial⟩) h
    rw [h2] at e1 e2 e4
    simp only [List.countP_cons, Sg.isX, Sg.isK, Sg.isT, List.length_append, List.length_cons, List.length_nil] at *
    exact ⟨by simp at *; omega, by simp at *; omega, by simpa using e3, e4, e5⟩
  | M =>
   rw [Tree.parts] at h
   cases h1 : addK false (p.tm (ar ++ st.binds)) st with
   | none => rw [h1] at h; simp at h
   | some st1 =>
    rw [h1] at h
    obtain ⟨m, ht, h2⟩ := adk h1
    have hm := ih p (List.mem_cons_self ..) _ _ ht
    obtain ⟨e1, e2, e3, e4, e5⟩ := parts_fit ar cs ps st1 st' ih' hl' (by rw [h2]; exact (tmfits_append _ _).2 ⟨hf, hm, trivial⟩) h
    rw [h2] at e1 e2 e4
    simp only [List.countP_cons, Sg.isX, Sg.isK, Sg.isT, List.length_append, List.length_cons, List.length_nil] at *
    exact ⟨by simp at *; omega, by simp at *; omega, by simpa using e3, e4, e5⟩
theorem tm_fit (t : Tree) (ar : List ByteArray) (m : Tm) (h : t.tm ar = some m) : m.fit := by
 match t with
 | .atom s =>
  rw [Tree.tm, atomTm] at h
  split at h
  ·rename_i c; simp at h; subst h
   rw [Tm.fit]; exact ⟨fun e => by rcases c with c | c <;> (rw [c] at e; cases e), trivial⟩
  ·split at h
   ·rename_i c; simp at h; subst h
    rw [Tm.fit]; exact ⟨fun e => absurd e (nameB_ne c), trivial⟩
   ·simp at h
 | .node [] => rw [Tree.tm] at h; simp at h
 | .node (q :: ps) =>
  obtain ⟨st, h1, h2, h3, rfl⟩ := tmn h
  obtain ⟨e1, e2, e3, e4, e5⟩ := parts_fit ar _ ps St.none st (fun p hp ar m => tm_fit p ar m) h2 trivial h3
  rw [Tm.fit]
  exact ⟨fun _ => ⟨by rw [e1]; simp [St.none], by rw [e2]; simp [St.none], e3⟩, e5⟩
termination_by t
decreasing_by
 have := List.sizeOf_lt_of_mem hp
 simp; omega
theorem str (s : ByteArray) : Lib.strCells s = Lib.byteCells s.data.toList := rfl
def strPair : ByteArray := ⟨#[112, 97, 105, 114]⟩
def strThunk : ByteArray := ⟨#[116, 104, 117, 110, 107]⟩
def strReturn : ByteArray := ⟨#[114, 101, 116, 117, 114, 110]⟩
def strLam : ByteArray := ⟨#[108, 97, 109]⟩
def strBoth : ByteArray := ⟨#[98, 111, 116, 104]⟩
def strX : ByteArray := ⟨#[120]⟩
def str0 : ByteArray := ⟨#[48]⟩
def Ty.simp : Ty → Tm
 | .bit => .mk strBit str0 (-1) [] none []
 | .pair a b => .mk strPair ByteArray.empty 0 [] none [a.simp, b.simp]
 | .thunk c => .mk strThunk ByteArray.empty 0 [] none [c.simp]
 | .ret a => .mk strReturn ByteArray.empty 0 [] none [a.simp]
 | .fn a c => .mk strLam ByteArray.empty 0 [strX] (some a) [c.simp]
 | .choice c d => .mk strBoth ByteArray.empty 0 [] none [c.simp, d.simp]
theorem strPair_l : strPair.toList = [112, 97, 105, 114] := by rw [Go.ByteArray.toList_eq]; rfl
theorem strThunk_l : strThunk.toList = [116, 104, 117, 110, 107] := by rw [Go.ByteArray.toList_eq]; rfl
theorem strReturn_l : strReturn.toList = [114, 101, 116, 117, 114, 110] := by rw [Go.ByteArray.toList_eq]; rfl
theorem strLam_l : strLam.toList = [108, 97, 109] := by rw [Go.ByteArray.toList_eq]; rfl
theorem strBoth_l : strBoth.toList = [98, 111, 116, 104] := by rw [Go.ByteArray.toList_eq]; rfl
theorem str0_l : str0.toList = [48] := by rw [Go.ByteArray.toList_eq]; rfl
theorem simp_bit : Ty.bit.simp.write = [48] := by
 rw [Ty.simp, Tm.write, if_neg (by rw [str0_l]; simp)]; rfl
theorem simp_pair (x y : Ty) : (Ty.pair x y).simp.write = [40, 112, 97, 105, 114, 32] ++ x.simp.write ++ [32] ++ y.simp.write ++ [41] := by
 rw [Ty.simp, Tm.write, if_pos emp, strPair_l, shape_pair]
 simp [Tm.writes, weave, strPair]
theorem simp_thunk (x : Ty) : (Ty.thunk x).simp.write = [40, 116, 104, 117, 110, 107, 32] ++ x.simp.write ++ [41] := by
 rw [Ty.simp, Tm.write, if_pos emp, strThunk_l, shape_thunk]
 simp [Tm.writes, weave, strThunk]
theorem simp_ret (x : Ty) : (Ty.ret x).simp.write = [40, 114, 101, 116, 117, 114, 110, 32] ++ x.simp.write ++ [41] := by
 rw [Ty.simp, Tm.write, if_pos emp, strReturn_l, shape_return]
 simp [Tm.writes, weave, strReturn]
theorem simp_fn (x y : Ty) : (Ty.fn x y).simp.write = [40, 108, 97, 109, 32, 120, 32] ++ x.write ++ [32] ++ y.simp.write ++ [41] := by
 rw [Ty.simp, Tm.write, if_pos emp, strLam_l, shape_lam]
 simp [Tm.writes, weave, strLam, strX, tyText]
theorem simp_choice (x y : Ty) : (Ty.choice x y).simp.write = [40, 98, 111, 116, 104, 32] ++ x.simp.write ++ [32] ++ y.simp.write ++ [41] := by
 rw [Ty.simp, Tm.write, if_pos emp, strBoth_l, shape_both]
 simp [Tm.writes, weave, strBoth]
theorem wri : ∀ t : Ty, t.write.length ≤ 5 * t.atoms
 | .bit => by simp [Ty.write, Ty.atoms]
 | .pair x y => by have := wri x; have := wri y; simp [Ty.write, Ty.atoms]; omega
 | .thunk x => by have := wri x; simp [Ty.write, Ty.atoms]; omega
 | .ret x => by have := wri x; simp [Ty.write, Ty.atoms]; omega
 | .fn x y => by have := wri x; have := wri y; simp [Ty.write, Ty.atoms]; omega
 | .choice x y => by have := wri x; have := wri y; simp [Ty.write, Ty.atoms]; omega
theorem sim : ∀ t : Ty, t.simp.write.length ≤ 10 * t.atoms
 | .bit => by rw [simp_bit, Ty.atoms]; simp
 | .pair x y => by have := sim x; have := sim y; rw [simp_pair, Ty.atoms]; simp; omega
 | .thunk x => by have := sim x; rw [simp_thunk, Ty.atoms]; simp; omega
 | .ret x => by have := sim x; rw [simp_ret, Ty.atoms]; simp; omega
 | .fn x y => by have := wri x; have := sim y; rw [simp_fn, Ty.atoms]; simp; omega
 | .choice x y => by have := sim x; have := sim y; rw [simp_choice, Ty.atoms]; simp; omega
def SW (t : Ty) : ByteArray := ⟨t.simp.write.toArray⟩
theorem sw_size (t : Ty) : (SW t).size = t.simp.write.length := by simp [SW, ByteArray.size]
theorem sw_bit : ({ data := #[48] } : ByteArray) = SW .bit := by rw [SW, simp_bit]
theorem sw_pair (x y : Ty) : ((({ data := #[40, 112, 97, 105, 114, 32] } : ByteArray) ++ SW x) ++ ({ data := #[32] } : ByteArray)) ++ SW y ++ ({ data := #[41] } : ByteArray) = SW (.pair x y) := by
 apply ByteArray.ext
 show _ = (⟨(Ty.pair x y).simp.write.toArray⟩ : ByteArray).data
 rw [simp_pair]; simp [SW, ByteArray.data_append]
theorem sw_choice (x y : Ty) : ((({ data := #[40, 98, 111, 116, 104, 32] } : ByteArray) ++ SW x) ++ ({ data := #[32] } : ByteArray)) ++ SW y ++ ({ data := #[41] } : ByteArray) = SW (.choice x y) := by
 apply ByteArray.ext
 show _ = (⟨(Ty.choice x y).simp.write.toArray⟩ : ByteArray).data
 rw [simp_choice]; simp [SW, ByteArray.data_append]
theorem sw_fn (x y : Ty) (T : ByteArray) (hT : T.data.toList = x.write) : ((({ data := #[40, 108, 97, 109, 32, 120, 32] } : ByteArray) ++ T) ++ ({ data := #[32] } : ByteArray)) ++ SW y ++ ({ data := #[41] } : ByteArray) = SW (.fn x y) := by
 apply ByteArray.ext
 show _ = (⟨(Ty.fn x y).simp.write.toArray⟩ : ByteArray).data
 rw [simp_fn, ← hT]; simp [SW, ByteArray.data_append]
theorem sw_thunk (x : Ty) : (({ data := #[40, 116, 104, 117, 110, 107, 32] } : ByteArray) ++ SW x) ++ ({ data := #[41] } : ByteArray) = SW (.thunk x) := by
 apply ByteArray.ext
 show _ = (⟨(Ty.thunk x).simp.write.toArray⟩ : ByteArray).data
 rw [simp_thunk]; simp [SW, ByteArray.data_append]
theorem sw_ret (x : Ty) : (({ data := #[40, 114, 101, 116, 117, 114, 110, 32] } : ByteArray) ++ SW x) ++ ({ data := #[41] } : ByteArray) = SW (.ret x) := by
 apply ByteArray.ext
 show _ = (⟨(Ty.ret x).simp.write.toArray⟩ : ByteArray).data
 rw [simp_ret]; simp [SW, ByteArray.data_append]
theorem ty_node_inv {q : Tree} {qs : List Tree} {ty : Ty} (h : Tree.ty (.node (q :: qs)) = some ty) :
    (∃ p1 x, qs = [p1] ∧ p1.ty = some x ∧ ((q.text.toList = [117] ∧ ty = .thunk x) ∨ (q.text.toList = [102] ∧ ty = .ret x))) ∨
    (∃ p1 p2 x y, qs = [p1, p2] ∧ p1.ty = some x ∧ p2.ty = some y ∧ ((q.text.toList = [42] ∧ ty = .pair x y) ∨ (q.text.toList = [62] ∧ ty = .fn x y) ∨ (q.text.toList = [38] ∧ ty = .choice x y))) := by
 rw [Tree.ty] at h
 match qs, h with
 | [], h => simp [Tree.tys, tya] at h
 | [p1], h =>
  cases h1 : p1.ty with
  | none => simp [Tree.tys, h1] at h
  | some x =>
   simp only [Tree.tys, h1, tya] at h
   refine Or.inl ⟨p1, x, rfl, h1, ?_⟩
   split at h
   ·rename_i c; simp at h; exact Or.inl ⟨c.1, h.symm⟩
   ·split at h
    ·rename_i c; simp at h; exact Or.inr ⟨c.1, h.symm⟩
    ·simp at h
 | [p1, p2], h =>
  cases h1 : p1.ty with
  | none => simp [Tree.tys, h1] at h
  | some x =>
   cases h2 : p2.ty with
   | none => simp [Tree.tys, h1, h2] at h
   | some y =>
    simp only [Tree.tys, h1, h2, tya] at h
    refine Or.inr ⟨p1, p2, x, y, rfl, h1, h2, ?_⟩
    split at h
    ·rename_i c; simp at h; exact Or.inl ⟨c.1, h.symm⟩
    ·split at h
     ·rename_i c; simp at h; exact Or.inr (Or.inl ⟨c.1, h.symm⟩)
     ·split at h
      ·rename_i c; simp at h; exact Or.inr (Or.inr ⟨c.1, h.symm⟩)
      ·simp at h
 | p1 :: p2 :: p3 :: r, h =>
  exfalso
  cases h1 : p1.ty with
  | none => simp [Tree.tys, h1] at h
  | some x =>
   cases h2 : p2.ty with
   | none => simp [Tree.tys, h1, h2] at h
   | some y =>
    cases h3 : p3.ty with
    | none => simp [Tree.tys, h1, h2, h3] at h
    | some z =>
     cases h4 : Tree.tys r with
     | none => simp [Tree.tys, h1, h2, h3, h4] at h
     | some ts => simp [Tree.tys, h1, h2, h3, h4, tya] at h
def OfAsk (w0 : World) (h : Hd) (ty : Ty) : Prop := ∀ W, Kept w0 W → w0.heap.size ≤ W.heap.size → Calls Tryz.prog 155 #[.agg #[.string h.a, .slice h.p h.l h.c]] W fun e w' => e = .returned (.string (SW ty)) ∧ Below W.heap.size W w'
theorem of_thunk {w0 : World} {b cap : Nat} {h1 : Hd} (x : Ty) (hx : x.atoms ≤ 12) (h0 : w0.cell? ⟨b, 0, none⟩ = some (.string ⟨#[117]⟩)) (ha : w0.cell? ⟨b, 2, none⟩ = some (.string h1.a)) (hb : w0.cell? ⟨b, 3, none⟩ = some (.slice h1.p h1.l h1.c)) (ih : OfAsk w0 h1 x) :
    OfAsk w0 ⟨ByteArray.empty, some ⟨b, 0, none⟩, 2, cap⟩ (.thunk x) := by
 intro w hk hw
 have hsz := sim x
 have hss : (SW x).size ≤ 500 := by rw [sw_size]; omega
 have HS := hid (sw_thunk x)
 have HX := hid (fun W (h : Below (w.heap.size + 1) (w.alloc (.cells #[.string ByteArray.empty, .slice (some ⟨b, 0, none⟩) 2 cap] 43)) W) => ih W ((hk.alloc hw _).below h (by omega)) (by have := h.size; simp at this; omega))
 have HK := hid (fun W (h : Below (w.heap.size + 1) (w.alloc (.cells #[.string ByteArray.empty, .slice (some ⟨b, 0, none⟩) 2 cap] 43)) W) => (hk.alloc hw _).below h (by omega))
 have hk1 := HK.out _ (Below.refl _ _)
 have c0 := hk1.cell h0
 have ca := hk1.cell ha
 have cb := hk1.cell hb
 have H0 := hid h0
 obtain ⟨X, hX⟩ : ∃ X, SW x = X := ⟨_, rfl⟩
 rw [hX] at HS hss
 have HX2 := hid (fun W h => by have := HX.out W h; rw [hX] at this; exact this)
 clear hX HX h0 ha hb hk1 ih hk hsz
 go_enter Tryz.func155, Tryz.ntmps155
 go_wp2_with (go_at_call 155; refine (HX2.out _ (Below.refl _ _)).mono ?_; rintro e w1 ⟨rfl, hb1⟩; have hb1' := hb1.mono (show w.heap.size + 1 ≤ _ from by simp); have kc := cel (blo (hea w (.cells #[.string ByteArray.empty, .slice (some ⟨b, 0, none⟩) 2 cap] 43) w.heap.size rfl) hb1' (by omega)); have c01 := (HK.out _ hb1').cell H0.out)
 go_ret
 exact ⟨rer HS.out, ((Below.refl w.heap.size w).alloc (Nat.le_refl _) _).trans (hb1.mono (by simp))⟩
theorem of_ret {w0 : World} {b cap : Nat} {h1 : Hd} (x : Ty) (hx : x.atoms ≤ 12) (h0 : w0.cell? ⟨b, 0, none⟩ = some (.string ⟨#[102]⟩)) (ha : w0.cell? ⟨b, 2, none⟩ = some (.string h1.a)) (hb : w0.cell? ⟨b, 3, none⟩ = some (.slice h1.p h1.l h1.c)) (ih : OfAsk w0 h1 x) :
    OfAsk w0 ⟨ByteArray.empty, some ⟨b, 0, none⟩, 2, cap⟩ (.ret x) := by
 intro w hk hw
 have hsz := sim x
 have hss : (SW x).size ≤ 500 := by rw [sw_size]; omega
 have HS := hid (sw_ret x)
 have HX := hid (fun W (h : Below (w.heap.size + 1) (w.alloc (.cells #[.string ByteArray.empty, .slice (some ⟨b, 0, none⟩) 2 cap] 43)) W) => ih W ((hk.alloc hw _).below h (by omega)) (by have := h.size; simp at this; omega))
 have HK := hid (fun W (h : Below (w.heap.size + 1) (w.alloc (.cells #[.string ByteArray.empty, .slice (some ⟨b, 0, none⟩) 2 cap] 43)) W) => (hk.alloc hw _).below h (by omega))
 have hk1 := HK.out _ (Below.refl _ _)
 have c0 := hk1.cell h0
 have ca := hk1.cell ha
 have cb := hk1.cell hb
 have H0 := hid h0
 obtain ⟨X, hX⟩ : ∃ X, SW x = X := ⟨_, rfl⟩
 rw [hX] at HS hss
 have HX2 := hid (fun W h => by have := HX.out W h; rw [hX] at this; exact this)
 clear hX HX h0 ha hb hk1 ih hk hsz
 go_enter Tryz.func155, Tryz.ntmps155
 go_wp2_with (go_at_call 155; refine (HX2.out _ (Below.refl _ _)).mono ?_; rintro e w1 ⟨rfl, hb1⟩; have hb1' := hb1.mono (show w.heap.size + 1 ≤ _ from by simp); have kc := cel (blo (hea w (.cells #[.string ByteArray.empty, .slice (some ⟨b, 0, none⟩) 2 cap] 43) w.heap.size rfl) hb1' (by omega)); have c01 := (HK.out _ hb1').cell H0.out)
 go_ret
 exact ⟨rer HS.out, ((Below.refl w.heap.size w).alloc (Nat.le_refl _) _).trans (hb1.mono (by simp))⟩
theorem of_pair {w0 : World} {b cap : Nat} {h1 h2 : Hd} (x y : Ty) (hx : x.atoms ≤ 12) (hy : y.atoms ≤ 12) (h0 : w0.cell? ⟨b, 0, none⟩ = some (.string ⟨#[42]⟩)) (ha : w0.cell? ⟨b, 2, none⟩ = some (.string h1.a)) (hb : w0.cell? ⟨b, 3, none⟩ = some (.slice h1.p h1.l h1.c))
    (ha2 : w0.cell? ⟨b, 4, none⟩ = some (.string h2.a)) (hb2 : w0.cell? ⟨b, 5, none⟩ = some (.slice h2.p h2.l h2.c)) (ih : OfAsk w0 h1 x) (ih2 : OfAsk w0 h2 y) :
    OfAsk w0 ⟨ByteArray.empty, some ⟨b, 0, none⟩, 3, cap⟩ (.pair x y) := by
 intro w hk hw
 have hsz := sim x
 have hss : (SW x).size ≤ 500 := by rw [sw_size]; omega
 have hsz2 := sim y
 have hss2 : (SW y).size ≤ 500 := by rw [sw_size]; omega
 have HS := hid (sw_pair x y)
 have HX := hid (fun W (h : Below (w.heap.size + 1) (w.alloc (.cells #[.string ByteArray.empty, .slice (some ⟨b, 0, none⟩) 3 cap] 43)) W) => ih W ((hk.alloc hw _).below h (by omega)) (by have := h.size; simp at this; omega))
 have HY := hid (fun W (h : Below (w.heap.size + 1) (w.alloc (.cells #[.string ByteArray.empty, .slice (some ⟨b, 0, none⟩) 3 cap] 43)) W) => ih2 W ((hk.alloc hw _).below h (by omega)) (by have := h.size; simp at this; omega))
 have HK := hid (fun W (h : Below (w.heap.size + 1) (w.alloc (.cells #[.string ByteArray.empty, .slice (some ⟨b, 0, none⟩) 3 cap] 43)) W) => (hk.alloc hw _).below h (by omega))
 have hk1 := HK.out _ (Below.refl _ _)
 have c0 := hk1.cell h0
 have ca := hk1.cell ha
 have cb := hk1.cell hb
 have H0 := hid h0
 have H2a := hid ha2
 have H2b := hid hb2
 obtain ⟨X, hX⟩ : ∃ X, SW x = X := ⟨_, rfl⟩
 rw [hX] at HS hss
 have HX2 := hid (fun W h => by have := HX.out W h; rw [hX] at this; exact this)
 obtain ⟨Y, hY⟩ : ∃ Y, SW y = Y := ⟨_, rfl⟩
 rw [hY] at HS hss2
 have HY2 := hid (fun W h => by have := HY.out W h; rw [hY] at this; exact this)
 clear hX HX hY HY h0 ha hb ha2 hb2 hk1 ih ih2 hk hsz hsz2
 go_enter Tryz.func155, Tryz.ntmps155
 go_wp2_with (first | (go_at_call 155; have _ := hb1; refine (HY2.out _ hb1').mono ?_; rintro e w2 ⟨rfl, hb2⟩) | (go_at_call 155; refine (HX2.out _ (Below.refl _ _)).mono ?_; rintro e w1 ⟨rfl, hb1⟩; have hb1' := hb1.mono (show w.heap.size + 1 ≤ _ from by simp); have kc := cel (blo (hea w (.cells #[.string ByteArray.empty, .slice (some ⟨b, 0, none⟩) 3 cap] 43) w.heap.size rfl) hb1' (by omega)); have c01 := (HK.out _ hb1').cell H0.out; have ca1 := (HK.out _ hb1').cell H2a.out; have cb1 := (HK.out _ hb1').cell H2b.out))
 go_ret
 exact ⟨rer HS.out, ((Below.refl w.heap.size w).alloc (Nat.le_refl _) _).trans ((hb1.mono (by simp)).trans (hb2.mono (by have := hb1.size; simp at this; omega)))⟩
theorem of_choice {w0 : World} {b cap : Nat} {h1 h2 : Hd} (x y : Ty) (hx : x.atoms ≤ 12) (hy : y.atoms ≤ 12) (h0 : w0.cell? ⟨b, 0, none⟩ = some (.string ⟨#[38]⟩)) (ha : w0.cell? ⟨b, 2, none⟩ = some (.string h1.a)) (hb : w0.cell? ⟨b, 3, none⟩ = some (.slice h1.p h1.l h1.c))
    (ha2 : w0.cell? ⟨b, 4, none⟩ = some (.string h2.a)) (hb2 : w0.cell? ⟨b, 5, none⟩ = some (.slice h2.p h2.l h2.c)) (ih : OfAsk w0 h1 x) (ih2 : OfAsk w0 h2 y) :
    OfAsk w0 ⟨ByteArray.empty, some ⟨b, 0, none⟩, 3, cap⟩ (.choice x y) := by
 intro w hk hw
 have hsz := sim x
 have hss : (SW x).size ≤ 500 := by rw [sw_size]; omega
 have hsz2 := sim y
 have hss2 : (SW y).size ≤ 500 := by rw [sw_size]; omega
 have HS := hid (sw_choice x y)
 have HX := hid (fun W (h : Below (w.heap.size + 1) (w.alloc (.cells #[.string ByteArray.empty, .slice (some ⟨b, 0, none⟩) 3 cap] 43)) W) => ih W ((hk.alloc hw _).below h (by omega)) (by have := h.size; simp at this; omega))
 have HY := hid (fun W (h : Below (w.heap.size + 1) (w.alloc (.cells #[.string ByteArray.empty, .slice (some ⟨b, 0, none⟩) 3 cap] 43)) W) => ih2 W ((hk.alloc hw _).below h (by omega)) (by have := h.size; simp at this; omega))
 have HK := hid (fun W (h : Below (w.heap.size + 1) (w.alloc (.cells #[.string ByteArray.empty, .slice (some ⟨b, 0, none⟩) 3 cap] 43)) W) => (hk.alloc hw _).below h (by omega))
 have hk1 := HK.out _ (Below.refl _ _)
 have c0 := hk1.cell h0
 have ca := hk1.cell ha
 have cb := hk1.cell hb
 have H0 := hid h0
 have H2a := hid ha2
 have H2b := hid hb2
 obtain ⟨X, hX⟩ : ∃ X, SW x = X := ⟨_, rfl⟩
 rw [hX] at HS hss
 have HX2 := hid (fun W h => by have := HX.out W h; rw [hX] at this; exact this)
 obtain ⟨Y, hY⟩ : ∃ Y, SW y = Y := ⟨_, rfl⟩
 rw [hY] at HS hss2
 have HY2 := hid (fun W h => by have := HY.out W h; rw [hY] at this; exact this)
 clear hX HX hY HY h0 ha hb ha2 hb2 hk1 ih ih2 hk hsz hsz2
 go_enter Tryz.func155, Tryz.ntmps155
 go_wp2_with (first | (go_at_call 155; have _ := hb1; refine (HY2.out _ hb1').mono ?_; rintro e w2 ⟨rfl, hb2⟩) | (go_at_call 155; refine (HX2.out _ (Below.refl _ _)).mono ?_; rintro e w1 ⟨rfl, hb1⟩; have hb1' := hb1.mono (show w.heap.size + 1 ≤ _ from by simp); have kc := cel (blo (hea w (.cells #[.string ByteArray.empty, .slice (some ⟨b, 0, none⟩) 3 cap] 43) w.heap.size rfl) hb1' (by omega)); have c01 := (HK.out _ hb1').cell H0.out; have ca1 := (HK.out _ hb1').cell H2a.out; have cb1 := (HK.out _ hb1').cell H2b.out))
 go_ret
 exact ⟨rer HS.out, ((Below.refl w.heap.size w).alloc (Nat.le_refl _) _).trans ((hb1.mono (by simp)).trans (hb2.mono (by have := hb1.size; simp at this; omega)))⟩
theorem of_fn {w0 : World} {b cap : Nat} {h1 h2 : Hd} {p1 : Tree} (x y : Ty) (hx : x.atoms ≤ 12) (hy : y.atoms ≤ 12) (h0 : w0.cell? ⟨b, 0, none⟩ = some (.string ⟨#[62]⟩)) (ha : w0.cell? ⟨b, 2, none⟩ = some (.string h1.a)) (hb : w0.cell? ⟨b, 3, none⟩ = some (.slice h1.p h1.l h1.c))
    (ha2 : w0.cell? ⟨b, 4, none⟩ = some (.string h2.a)) (hb2 : w0.cell? ⟨b, 5, none⟩ = some (.slice h2.p h2.l h2.c)) (ih : OfAsk w0 h1 x) (ih2 : OfAsk w0 h2 y)
    (hT : p1.write = x.write) (it : ∀ W, Kept w0 W → w0.heap.size ≤ W.heap.size → Calls Tryz.prog 71 #[.agg #[.string h1.a, .slice h1.p h1.l h1.c]] W fun e w' => e = .returned (.string p1.txt) ∧ Below W.heap.size W w') :
    OfAsk w0 ⟨ByteArray.empty, some ⟨b, 0, none⟩, 3, cap⟩ (.fn x y) := by
 intro w hk hw
 have hsz := sim x
 have hss : (SW x).size ≤ 500 := by rw [sw_size]; omega
 have hsz2 := sim y
 have hss2 : (SW y).size ≤ 500 := by rw [sw_size]; omega
 have hsz3 := wri x
 have hss3 : p1.txt.size ≤ 500 := by rw [txt_size, hT]; omega
 have HS := hid (sw_fn x y p1.txt (show p1.txt.data.toList = _ from hT))
 obtain ⟨W0, hW0⟩ : ∃ W0, W0 = w.alloc (.cells #[.string ByteArray.empty, .slice (some ⟨b, 0, none⟩) 3 cap] 43) := ⟨_, rfl⟩
 have hkW : Kept w0 W0 := by rw [hW0]; exact hk.alloc hw _
 have hsW : W0.heap.size = w.heap.size + 1 := by rw [hW0]; simp
 have hbx := hea w (.cells #[.string ByteArray.empty, .slice (some ⟨b, 0, none⟩) 3 cap] 43) w.heap.size rfl
 rw [← hW0] at hbx
 have hbw : Below w.heap.size w W0 := by rw [hW0]; exact (Below.refl _ _).alloc (Nat.le_refl _) _
 have HX := hid (fun W (h : Below W0.heap.size W0 W) => ih W (hkW.below h (by omega)) (by have := h.size; omega))
 have HY := hid (fun W (h : Below W0.heap.size W0 W) => ih2 W (hkW.below h (by omega)) (by have := h.size; omega))
 have HT := hid (fun W (h : Below W0.heap.size W0 W) => it W (hkW.below h (by omega)) (by have := h.size; omega))
 have HKC := hid (fun W (h : Below W0.heap.size W0 W) => (show (W.cell? ⟨w.heap.size, 0, none⟩ = some (.string ByteArray.empty) ∧ W.cell? ⟨w.heap.size, 1, none⟩ = some (.slice (some ⟨b, 0, none⟩) 3 cap)) ∧ W.cell? ⟨b, 0, none⟩ = some (.string ⟨#[62]⟩) ∧ W.cell? ⟨b, 2, none⟩ = some (.string h1.a) ∧ W.cell? ⟨b, 3, none⟩ = some (.slice h1.p h1.l h1.c) ∧ W.cell? ⟨b, 4, none⟩ = some (.string h2.a) ∧ W.cell? ⟨b, 5, none⟩ = some (.slice h2.p h2.l h2.c) from by
  have c := cel (blo hbx h (by omega))
  have hkk := hkW.below h (by omega)
  exact ⟨⟨c.1, c.2.1⟩, hkk.cell h0, hkk.cell ha, hkk.cell hb, hkk.cell ha2, hkk.cell hb2⟩))
 have c0 := HKC.out _ (Below.refl _ _)
 rw [hW0] at c0
 obtain ⟨X, hX⟩ : ∃ X, SW x = X := ⟨_, rfl⟩
 rw [hX] at hss
 have HX2 := hid (fun W h => by have := HX.out W h; rw [hX] at this; exact this)
 obtain ⟨Y, hY⟩ : ∃ Y, SW y = Y := ⟨_, rfl⟩
 rw [hY] at HS hss2
 have HY2 := hid (fun W h => by have := HY.out W h; rw [hY] at this; exact this)
 obtain ⟨T, hTT⟩ : ∃ T, p1.txt = T := ⟨_, rfl⟩
 rw [hTT] at HS hss3 HT
 have HW0 := hid hW0
 have HBW := hid hbw
 have HSW := hid hsW
 have hwl : w.heap.size < W0.heap.size := by omega
 clear hX HX hY HY h0 ha hb ha2 hb2 ih ih2 it hk hsz hsz2 hsz3 hT hkW hsW hbx hTT hW0 hbw
 go_enter Tryz.func155, Tryz.ntmps155
 go_wp2_with (go_at_call 155; rw [← HW0.out]; refine (HX2.out _ (Below.refl _ _)).mono ?_; rintro e w1 ⟨rfl, hb1⟩; have c1 := HKC.out _ hb1)
 have HB1 := hid (hb1.trans ((Below.refl w1.heap.size w1).drew.mono hb1.size))
 have HS1 := hid hb1.size
 clear hb1 c0
 go_region_with (first
  | (go_at_call 155; first
     | (have _ := HBT; refine (HY2.out _ HBT.out).mono ?_; rintro e w3 ⟨rfl, hb3⟩; have HBY := hid (HBT.out.trans (hb3.mono HBT.out.size)); have c3 := HKC.out _ HBY.out; clear hb3)
     | (refine (HY2.out _ HB1.out).mono ?_; rintro e w3 ⟨rfl, hb3⟩; have HBY := hid (HB1.out.trans (hb3.mono HB1.out.size)); have c3 := HKC.out _ HBY.out; clear hb3))
  | (go_at_call 71; refine (HT.out _ HB1.out).mono ?_; rintro e w2 ⟨rfl, hb2⟩; have HBT := hid (HB1.out.trans (hb2.mono HB1.out.size)); have c2 := HKC.out _ HBT.out; clear hb2))
 all_goals
  go_wp2_with fail
  go_ret
  exact ⟨rer HS.out, HBW.out.trans (HBY.out.mono (by have := HSW.out; omega))⟩
theorem text_byte {q : Tree} {c : UInt8} (h : q.text.toList = [c]) : q.text = ⟨#[c]⟩ := byt h
theorem l3Of_any {w0 : World} {S : Nat → Prop} {t : Tree} {h : Hd} (ht : TIn w0 S t h) : ∀ ty, t.ty = some ty → ty.atoms ≤ 12 → t.wt ≤ 12000 → OfAsk w0 h ty := by
 have htx := fun (hl : t.write.length ≤ 12000) (hw : t.wt ≤ 12000) => l1Text_any ht hl hw
 clear htx
 induction ht with
 | atom s hne hm =>
  intro ty hty _ _ w _ _
  have he := ise s hne
  have hb : ty = .bit := by
   rw [Tree.ty] at hty
   split at hty
   ·simp at hty; exact hty.symm
   ·simp at hty
  subst hb
  clear hty
  go_enter Tryz.func155, Tryz.ntmps155
  go_wp2_with fail
  go_ret
  exact ⟨rer sw_bit, (Below.refl _ _).alloc (Nat.le_refl _) _⟩
 | node ps b cap A hp hl hc hS hA hB hps ih =>
  intro ty hty hat hwt
  obtain ⟨q, qs, rfl⟩ : ∃ q qs, ps = q :: qs := by cases ps with | nil => simp at hp | cons q qs => exact ⟨q, qs, rfl⟩
  rw [Tree.wt] at hwt
  have h0 : w0.cell? ⟨b, 0, none⟩ = some (.string q.text) := by
   have := hA 0 hp
   rw [(hps 0 q rfl).text] at this; simpa using this
  rcases ty_node_inv hty with ⟨p1, x, rfl, h1, hcase⟩ | ⟨p1, p2, x, y, rfl, h1, h2, hcase⟩
  ·have hA1 := hA 1 (by simp)
   have hB1 := hB 1 (by simp)
   have hw1 := wtp [q, p1] 1 p1 rfl
   rcases hcase with ⟨hq, rfl⟩ | ⟨hq, rfl⟩
   ·rw [text_byte hq] at h0
    rw [Ty.atoms] at hat
    exact of_thunk x (by omega) h0 (by simpa using hA1) (by simpa using hB1) (ih 1 p1 rfl x h1 (by omega) (by omega))
   ·rw [text_byte hq] at h0
    rw [Ty.atoms] at hat
    exact of_ret x (by omega) h0 (by simpa using hA1) (by simpa using hB1) (ih 1 p1 rfl x h1 (by omega) (by omega))
  ·have hA1 := hA 1 (by simp)
   have hB1 := hB 1 (by simp)
   have hA2 := hA 2 (by simp)
   have hB2 := hB 2 (by simp)
   have hw1 := wtp [q, p1, p2] 1 p1 rfl
   have hw2 := wtp [q, p1, p2] 2 p2 rfl
   rcases hcase with ⟨hq, rfl⟩ | ⟨hq, rfl⟩ | ⟨hq, rfl⟩
   ·rw [text_byte hq] at h0
    rw [Ty.atoms] at hat
    exact of_pair x y (by omega) (by omega) h0 (by simpa using hA1) (by simpa using hB1) (by simpa using hA2) (by simpa using hB2) (ih 1 p1 rfl x h1 (by omega) (by omega)) (ih 2 p2 rfl y h2 (by omega) (by omega))
   ·rw [text_byte hq] at h0
    rw [Ty.atoms] at hat
    have hpw : p1.write = x.write := ty_write p1 x h1
    have hwl := wri x
    exact of_fn (p1 := p1) x y (by omega) (by omega) h0 (by simpa using hA1) (by simpa using hB1) (by simpa using hA2) (by simpa using hB2) (ih 1 p1 rfl x h1 (by omega) (by omega)) (ih 2 p2 rfl y h2 (by omega) (by omega)) hpw (l1Text_any (hps 1 p1 rfl) (by rw [hpw]; omega) (by omega))
   ·rw [text_byte hq] at h0
    rw [Ty.atoms] at hat
    exact of_choice x y (by omega) (by omega) h0 (by simpa using hA1) (by simpa using hB1) (by simpa using hA2) (by simpa using hB2) (ih 1 p1 rfl x h1 (by omega) (by omega)) (ih 2 p2 rfl y h2 (by omega) (by omega))
theorem readTy_atoms {s : ByteArray} {ty : Ty} (h : readTy s = some ty) : ty.atoms ≤ 12 := by
 unfold readTy at h
 cases hp : parse s with
 | none => rw [hp] at h; simp at h
 | some t =>
  rw [hp] at h; simp only at h
  split at h
  ·rename_i hc; rw [← ty_size t ty h]; exact hc
  ·simp at h
def ofText (o : Option Ty) : ByteArray := match o with
 | some t => SW t
 | none => ByteArray.empty
def OfPost (o : Option Ty) (w : World) (e : Ending) (w' : World) : Prop := e = .returned (.tuple #[.string (ofText o), .bool o.isSome]) ∧ Below w.heap.size w w'
theorem specTermOf_any (s : ByteArray) (hs : s.size ≤ 400000000) (w : World) : Calls Tryz.prog 140 #[.string s] w (OfPost (readTy s) w) := by
 have HC := hid (fun W => l1Type_any s hs W)
 cases ht : ty0 s with
 | none =>
  rw [ty1 ht]
  have HT := hid ht
  clear ht
  go_enter Tryz.func140, Tryz.ntmps140
  go_wp2_with (go_at_call 98; refine (HC.out _).mono ?_; rintro e w1 hp; rw [HT.out] at hp; obtain ⟨pa, pp, pl, pc, rfl, hpl, hb1⟩ := hp.none; clear hp)
  go_ret2
  exact ⟨rfl, hb1.alloc hb1.size _⟩
 | some t =>
  obtain ⟨hp, hsz, ty, hty, hr, _⟩ := tym ht
  rw [hr]
  have hat := readTy_atoms hr
  have hwt := pas hp
  have HT := hid ht
  have HTY := hid hty
  clear ht hp hr hty
  go_enter Tryz.func140, Tryz.ntmps140
  go_wp2_with (first | (go_at_call 155; have _ := hb1; refine (HD.out _ ((Kept.refl _).alloc (Nat.le_refl _) _) (by simp)).mono ?_; rintro e w2 ⟨rfl, hb2⟩) | (go_at_call 98; refine (HC.out _).mono ?_; rintro e w1 hp; rw [HT.out] at hp; obtain ⟨pa, pp, pl, pc, rfl, hb1, htr⟩ := hp.some; clear hp; have HD := hid (l3Of_any htr ty HTY.out hat hwt); clear htr))
  go_ret2
  have s1 := hb1.size
  exact ⟨rfl, hb1.trans (((Below.refl _ _).alloc s1 _).trans (hb2.mono (by simp; omega)))⟩
end Go.Proofs.YtfogjomebcponaaGreatDoor
