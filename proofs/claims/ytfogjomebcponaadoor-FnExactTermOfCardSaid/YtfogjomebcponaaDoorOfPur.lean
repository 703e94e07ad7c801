/- A type's simple term and its text. Nothing here speaks of a program. -/
import Derived.Test.YtfogjomebcponaaDoorWriteT
import Derived.Test.YtfogjomebcponaaDoorTyTx
namespace Go.Proofs.YtfogjomebcponaaDoor
open Go.RowKit

def strPair : ByteArray := ⟨#[112, 97, 105, 114]⟩
def strThunk : ByteArray := ⟨#[116, 104, 117, 110, 107]⟩
def strReturn : ByteArray := ⟨#[114, 101, 116, 117, 114, 110]⟩
def strLam : ByteArray := ⟨#[108, 97, 109]⟩
def strBoth : ByteArray := ⟨#[98, 111, 116, 104]⟩
def strX : ByteArray := ⟨#[120]⟩
def str0 : ByteArray := ⟨#[48]⟩
/-- The simple term of a type. -/
def Ty.simp : Ty → Tm
  | .bit => .mk strBit str0 (-1) [] none []
  | .pair a b => .mk strPair ByteArray.empty 0 [] none [a.simp, b.simp]
  | .thunk c => .mk strThunk ByteArray.empty 0 [] none [c.simp]
  | .ret a => .mk strReturn ByteArray.empty 0 [] none [a.simp]
  | .fn a c => .mk strLam ByteArray.empty 0 [strX] (some a) [c.simp]
  | .choice c d => .mk strBoth ByteArray.empty 0 [] none [c.simp, d.simp]
theorem strPair_l : strPair.toList = [112, 97, 105, 114] := by rw [Go.ByteArray.toList_eq]; rfl
theorem strThunk_l : strThunk.toList = [116, 104, 117, 110, 107] := by rw [Go.ByteArray.toList_eq]; rfl
theorem strReturn_l : strReturn.toList = [114, 101, 116, 117, 114, 110] := by rw [Go.ByteArray.toList_eq]; rfl
theorem strLam_l : strLam.toList = [108, 97, 109] := by rw [Go.ByteArray.toList_eq]; rfl
theorem strBoth_l : strBoth.toList = [98, 111, 116, 104] := by rw [Go.ByteArray.toList_eq]; rfl
theorem str0_l : str0.toList = [48] := by rw [Go.ByteArray.toList_eq]; rfl
theorem simp_fit : ∀ t : Ty, t.simp.fit
  | .bit => by rw [Ty.simp, Tm.fit]; exact ⟨(fun e => by rw [str0_l] at e; cases e), trivial⟩
  | .pair x y => by
    rw [Ty.simp, Tm.fit]
    exact ⟨fun _ => by rw [strPair_l, shape_pair]; exact ⟨rfl, rfl, fun h => absurd rfl h⟩, simp_fit x, simp_fit y, trivial⟩
  | .thunk x => by
    rw [Ty.simp, Tm.fit]
    exact ⟨fun _ => by rw [strThunk_l, shape_thunk]; exact ⟨rfl, rfl, fun h => absurd rfl h⟩, simp_fit x, trivial⟩
  | .ret x => by
    rw [Ty.simp, Tm.fit]
    exact ⟨fun _ => by rw [strReturn_l, shape_return]; exact ⟨rfl, rfl, fun h => absurd rfl h⟩, simp_fit x, trivial⟩
  | .fn x y => by
    rw [Ty.simp, Tm.fit]
    exact ⟨fun _ => by rw [strLam_l, shape_lam]; exact ⟨rfl, rfl, fun _ => by simp⟩, simp_fit y, trivial⟩
  | .choice x y => by
    rw [Ty.simp, Tm.fit]
    exact ⟨fun _ => by rw [strBoth_l, shape_both]; exact ⟨rfl, rfl, fun h => absurd rfl h⟩, simp_fit x, simp_fit y, trivial⟩
theorem simp_bit : Ty.bit.simp.write = [48] := by
  rw [Ty.simp, Tm.write, if_neg (by rw [str0_l]; simp)]; rfl
theorem simp_pair (x y : Ty) : (Ty.pair x y).simp.write = [40, 112, 97, 105, 114, 32] ++ x.simp.write ++ [32] ++ y.simp.write ++ [41] := by
  rw [Ty.simp, Tm.write, if_pos empty_toList, strPair_l, shape_pair]
  simp [Tm.writes, weave, strPair]
theorem simp_thunk (x : Ty) : (Ty.thunk x).simp.write = [40, 116, 104, 117, 110, 107, 32] ++ x.simp.write ++ [41] := by
  rw [Ty.simp, Tm.write, if_pos empty_toList, strThunk_l, shape_thunk]
  simp [Tm.writes, weave, strThunk]
theorem simp_ret (x : Ty) : (Ty.ret x).simp.write = [40, 114, 101, 116, 117, 114, 110, 32] ++ x.simp.write ++ [41] := by
  rw [Ty.simp, Tm.write, if_pos empty_toList, strReturn_l, shape_return]
  simp [Tm.writes, weave, strReturn]
theorem simp_fn (x y : Ty) : (Ty.fn x y).simp.write = [40, 108, 97, 109, 32, 120, 32] ++ x.write ++ [32] ++ y.simp.write ++ [41] := by
  rw [Ty.simp, Tm.write, if_pos empty_toList, strLam_l, shape_lam]
  simp [Tm.writes, weave, strLam, strX, tyText]
theorem simp_choice (x y : Ty) : (Ty.choice x y).simp.write = [40, 98, 111, 116, 104, 32] ++ x.simp.write ++ [32] ++ y.simp.write ++ [41] := by
  rw [Ty.simp, Tm.write, if_pos empty_toList, strBoth_l, shape_both]
  simp [Tm.writes, weave, strBoth]
theorem write_len : ∀ t : Ty, t.write.length ≤ 5 * t.atoms
  | .bit => by simp [Ty.write, Ty.atoms]
  | .pair x y => by have := write_len x; have := write_len y; simp [Ty.write, Ty.atoms]; omega
  | .thunk x => by have := write_len x; simp [Ty.write, Ty.atoms]; omega
  | .ret x => by have := write_len x; simp [Ty.write, Ty.atoms]; omega
  | .fn x y => by have := write_len x; have := write_len y; simp [Ty.write, Ty.atoms]; omega
  | .choice x y => by have := write_len x; have := write_len y; simp [Ty.write, Ty.atoms]; omega
theorem simp_len : ∀ t : Ty, t.simp.write.length ≤ 10 * t.atoms
  | .bit => by rw [simp_bit, Ty.atoms]; simp
  | .pair x y => by have := simp_len x; have := simp_len y; rw [simp_pair, Ty.atoms]; simp; omega
  | .thunk x => by have := simp_len x; rw [simp_thunk, Ty.atoms]; simp; omega
  | .ret x => by have := simp_len x; rw [simp_ret, Ty.atoms]; simp; omega
  | .fn x y => by have := write_len x; have := simp_len y; rw [simp_fn, Ty.atoms]; simp; omega
  | .choice x y => by have := simp_len x; have := simp_len y; rw [simp_choice, Ty.atoms]; simp; omega
end Go.Proofs.YtfogjomebcponaaDoor
