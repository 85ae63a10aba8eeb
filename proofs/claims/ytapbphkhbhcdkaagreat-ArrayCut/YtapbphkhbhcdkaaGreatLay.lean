/-
  maps.Copy OF THIS PROGRAM IS THE ONE WHOSE CONTRACT THE LIBRARY HOLDS: its numbers, and each fact by comparison.
-/
import Derived.Shelf.SlMaps.Copy
import Derived.Test.YtapbphkhbhcdkaaGreatProg
namespace Go.Proofs.YtapbphkhbhcdkaaGreat
open Go.Shelf
def copyA_ren : Go.Shelf.Ren := ⟨fun | 5 => 124 | n => n, fun | 23 => 87 | 24 => 87 | 26 => 3 | 27 => 55 | 0 => 0 | 4 => 4 | n => n, fun | n => n⟩
theorem copyA : Go.Proofs.SlLaysX.n5 Tryz.prog copyA_ren := {
  mixed := by kernel_rfl
  f5 := ⟨Tryz.f124.name, by decide, Tryz.func124.trans (congrArg some (by kernel_rfl))⟩
  t0 := Tryz.underlying0
  a0 := Tryz.isAgg0
  z0 := Tryz.sizeOf0
  v0 := Tryz.zeroValue0
  t4 := Tryz.underlying4
  a4 := Tryz.isAgg4
  z4 := Tryz.sizeOf4
  v4 := Tryz.zeroValue4
  t23 := Tryz.underlying87
  a23 := Tryz.isAgg87
  z23 := Tryz.sizeOf87
  v23 := Tryz.zeroValue87
  t24 := Tryz.underlying87
  a24 := Tryz.isAgg87
  z24 := Tryz.sizeOf87
  v24 := Tryz.zeroValue87
  a26 := Tryz.isAgg3
  z26 := Tryz.sizeOf3
  a27 := Tryz.isAgg55
  z27 := Tryz.sizeOf55 }
end Go.Proofs.YtapbphkhbhcdkaaGreat
