/- LinSays and LinBox of the specification. Condition: the text has at most 2^21 bytes. -/
import Derived.Test.YtilfpefccklebaaDoorRds
import Derived.Test.YtilfpefccklebaaDoorSPort
namespace Go.Proofs.YtilfpefccklebaaDoor
open Go.RowKit

/-- The end inside that a line names; the port of the box's. -/
def saysE (l : List UInt8) : Option (Int × Int) := if l.take 5 = portL then match rdE (l.drop 5) with | some (a, p) => if insB a p = true then some (a, p) else none | none => none else none
def boxE (l : List UInt8) : Option Int := if l.take 5 = portL then match rdE (l.drop 5) with | some (a, p) => if a = 50 then some p else none | none => none else none

theorem ext_drop (s : ByteArray) (i : Nat) : (s.extract i s.size).data.toList = s.data.toList.drop i := by
  rw [ext_list, List.take_of_length_le (by rw [len_list]; omega)]
theorem ext_take (s : ByteArray) (i : Nat) : (s.extract 0 i).data.toList = s.data.toList.take i := by
  rw [ext_list]; simp

/-- What LinSays and LinBox answer. -/
def saysV : Option (Int × Int) → Value
  | some (a, p) => .tuple #[.agg #[.int .i64 a, .int .i64 p], .bool true]
  | none => .tuple #[.agg #[.int .i64 0, .int .i64 0], .bool false]
def boxV : Option Int → Value
  | some p => .tuple #[.int .i64 p, .bool true]
  | none => .tuple #[.int .i64 0, .bool false]

end Go.Proofs.YtilfpefccklebaaDoor
