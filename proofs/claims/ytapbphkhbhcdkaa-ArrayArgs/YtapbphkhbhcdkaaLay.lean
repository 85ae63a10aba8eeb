/-
  maps.Copy OF THIS PROGRAM IS THE ONE WHOSE CONTRACT THE LIBRARY HOLDS: its numbers, and each fact by comparison.
-/
import Derived.Shelf.SlMaps.Copy
import Derived.Test.YtapbphkhbhcdkaaProg
namespace Go.Proofs.Ytapbphkhbhcdkaa
open Go.Shelf
def copyA_ren : Go.Shelf.Ren := ⟨fun | 5 => 112 | n => n, fun | 23 => 82 | 24 => 82 | 26 => 3 | 27 => 46 | 0 => 0 | 4 => 4 | n => n, fun | n => n⟩
theorem copyA : Go.Proofs.SlLaysX.n5 Try.prog copyA_ren := {
  mixed := by kernel_rfl
  f5 := ⟨Try.f112.name, by decide, Try.func112.trans (congrArg some (by kernel_rfl))⟩
  t0 := Try.underlying0
  a0 := Try.isAgg0
  z0 := Try.sizeOf0
  v0 := Try.zeroValue0
  t4 := Try.underlying4
  a4 := Try.isAgg4
  z4 := Try.sizeOf4
  v4 := Try.zeroValue4
  t23 := Try.underlying82
  a23 := Try.isAgg82
  z23 := Try.sizeOf82
  v23 := Try.zeroValue82
  t24 := Try.underlying82
  a24 := Try.isAgg82
  z24 := Try.sizeOf82
  v24 := Try.zeroValue82
  a26 := Try.isAgg3
  z26 := Try.sizeOf3
  a27 := Try.isAgg46
  z27 := Try.sizeOf46 }
end Go.Proofs.Ytapbphkhbhcdkaa
