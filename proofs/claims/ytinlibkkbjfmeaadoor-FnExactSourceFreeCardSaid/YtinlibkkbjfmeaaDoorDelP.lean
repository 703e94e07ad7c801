/- slices.DeleteFunc at texts: the library's contract, laid at this translation. -/
import Derived.Test.YtinlibkkbjfmeaaDoorSpecA
import Derived.Shelf.SlicesE.DeleteFunc
namespace Go.Proofs.YtinlibkkbjfmeaaDoor
open Go.RowKit Go.Shelf

def Tryd.lays10_ren : Go.Shelf.Ren := ⟨fun | 6 => 51 | 10 => 36 | n => n, fun | 22 => 22 | 23 => 9 | 25 => 27 | 4 => 4 | 3 => 3 | 0 => 0 | n => n, fun | n => n⟩
theorem Tryd.lays10 : Go.Proofs.SlLaysH.n10 Tryd.prog Tryd.lays10_ren := {
  mixed := by kernel_rfl
  f6 := ⟨Tryd.f51.name, by kernel_rfl, Tryd.func51.trans (congrArg some (by kernel_rfl))⟩
  f10 := ⟨Tryd.f36.name, by kernel_rfl, Tryd.func36.trans (congrArg some (by kernel_rfl))⟩
  t0 := Tryd.underlying0
  a0 := Tryd.isAgg0
  z0 := Tryd.sizeOf0
  v0 := Tryd.zeroValue0
  t3 := Tryd.underlying3
  a3 := Tryd.isAgg3
  z3 := Tryd.sizeOf3
  v3 := Tryd.zeroValue3
  t4 := Tryd.underlying4
  a4 := Tryd.isAgg4
  z4 := Tryd.sizeOf4
  v4 := Tryd.zeroValue4
  t22 := Tryd.underlying22
  a22 := Tryd.isAgg22
  z22 := Tryd.sizeOf22
  v22 := Tryd.zeroValue22
  a23 := Tryd.isAgg9
  z23 := Tryd.sizeOf9
  t25 := Tryd.underlying27
  a25 := Tryd.isAgg27
  z25 := Tryd.sizeOf27
  v25 := Tryd.zeroValue27 }
end Go.Proofs.YtinlibkkbjfmeaaDoor
