/- Merged: DelP. -/
import Derived.Shelf.SlicesE.DeleteFunc
import Derived.Test.YtgogoekfidbpdaaDoorSQ8
namespace Go.Proofs.YtgogoekfidbpdaaDoor
open Go.RowKit Go.Shelf

def Tryd.lays10_ren : Go.Shelf.Ren := ⟨fun | 6 => 48 | 10 => 32 | n => n, fun | 22 => 24 | 23 => 9 | 25 => 71 | 4 => 4 | 3 => 3 | 0 => 0 | n => n, fun | n => n⟩
theorem Tryd.lays10 : Go.Proofs.SlLaysH.n10 Tryd.prog Tryd.lays10_ren := {
  mixed := by kernel_rfl
  f6 := ⟨Tryd.f48.name, by kernel_rfl, Tryd.func48.trans (congrArg some (by kernel_rfl))⟩
  f10 := ⟨Tryd.f32.name, by kernel_rfl, Tryd.func32.trans (congrArg some (by kernel_rfl))⟩
  t0 := Tryd.underlying0
  a0 := Tryd.isAgg0
  z0 := Tryd.sizeOf0
  v0 := Tryd.zeroValue0
  t3 := Tryd.underlying3
  a3 := Tryd.isAgg3
  z3 := Tryd.sizeOf3
  v3 := Tryd.zeroValue3
  t4 := Tryd.underlying4
  a4 := Tryd.isAgg4
  z4 := Tryd.sizeOf4
  v4 := Tryd.zeroValue4
  t22 := Tryd.underlying24
  a22 := Tryd.isAgg24
  z22 := Tryd.sizeOf24
  v22 := Tryd.zeroValue24
  a23 := Tryd.isAgg9
  z23 := Tryd.sizeOf9
  t25 := Tryd.underlying71
  a25 := Tryd.isAgg71
  z25 := Tryd.sizeOf71
  v25 := Tryd.zeroValue71 }
end Go.Proofs.YtgogoekfidbpdaaDoor
