/- The laying of the library's sort.Search at this dump. No condition. -/
import Derived.Shelf.SlSorted.Search
import Derived.Test.YtgjhfmlncibpmaaProg
import Derived.Test.YtgjhfmlncibpmaaChecked
namespace Go.Proofs
open Go.Shelf
def Try.laysO16_ren : Go.Shelf.Ren := ⟨fun | 16 => 24 | n => n, fun | 3 => 3 | 4 => 4 | 35 => 46 | 38 => 52 | n => n, fun | n => n⟩
theorem Try.laysO16 : SlLaysO.n16 Try.prog Try.laysO16_ren := {
  mixed := by kernel_rfl
  f16 := Try.func24.trans (congrArg some (by kernel_rfl))
  t3 := Try.underlying3
  a3 := Try.isAgg3
  z3 := Try.sizeOf3
  v3 := Try.zeroValue3
  t4 := Try.underlying4
  a4 := Try.isAgg4
  z4 := Try.sizeOf4
  v4 := Try.zeroValue4
  t35 := Try.underlying46
  a35 := Try.isAgg46
  z35 := Try.sizeOf46
  v35 := Try.zeroValue46
  t38 := Try.underlying52
  a38 := Try.isAgg52
  z38 := Try.sizeOf52
  v38 := Try.zeroValue52 }
end Go.Proofs
