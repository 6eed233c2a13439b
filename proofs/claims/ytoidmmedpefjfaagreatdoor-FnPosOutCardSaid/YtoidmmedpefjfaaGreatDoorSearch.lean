/- The laying of the library's sort.Search at this dump. No condition. -/
import Derived.Shelf.SlSorted.Search
import Derived.Test.YtoidmmedpefjfaaGreatDoorProg
import Derived.Test.YtoidmmedpefjfaaGreatDoorChecked
namespace Go.Proofs
open Go.Shelf
def Tryz.laysO16_ren : Go.Shelf.Ren := ⟨fun | 16 => 113 | n => n, fun | 3 => 3 | 4 => 4 | 35 => 60 | 38 => 123 | n => n, fun | n => n⟩
theorem Tryz.laysO16 : SlLaysO.n16 Tryz.prog Tryz.laysO16_ren := {
  mixed := by kernel_rfl
  f16 := Tryz.func113.trans (congrArg some (by kernel_rfl))
  t3 := Tryz.underlying3
  a3 := Tryz.isAgg3
  z3 := Tryz.sizeOf3
  v3 := Tryz.zeroValue3
  t4 := Tryz.underlying4
  a4 := Tryz.isAgg4
  z4 := Tryz.sizeOf4
  v4 := Tryz.zeroValue4
  t35 := Tryz.underlying60
  a35 := Tryz.isAgg60
  z35 := Tryz.sizeOf60
  v35 := Tryz.zeroValue60
  t38 := Tryz.underlying123
  a38 := Tryz.isAgg123
  z38 := Tryz.sizeOf123
  v38 := Tryz.zeroValue123 }
end Go.Proofs
