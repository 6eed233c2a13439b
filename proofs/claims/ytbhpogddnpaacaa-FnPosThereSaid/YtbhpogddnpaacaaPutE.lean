/- An end more in a table, as data: the cases. No condition. -/
import Derived.Test.YtbhpogddnpaacaaVals
namespace Go.Proofs.Ytbhpogddnpaacaa
open Go.RowKit

theorem putE_has {es : List (Int × Int)} {e : Int × Int} (h : e ∈ es) : putE es e = (es, portI es e) := if_pos (by have := portI_pos h; omega)
theorem putE_full {es : List (Int × Int)} {e : Int × Int} (h : e ∉ es) (h6 : es.length = 6) : putE es e = (es, 0) := by
  unfold putE
  rw [if_neg (portI_zero_iff.2 h), if_pos h6]
theorem putE_new {es : List (Int × Int)} {e : Int × Int} (h : e ∉ es) (h6 : es.length ≠ 6) : putE es e = (es ++ [e], 500 + (es.length : Int)) := by
  unfold putE
  rw [if_neg (portI_zero_iff.2 h), if_neg h6]
theorem putE_ok {es : List (Int × Int)} {e : Int × Int} (hm : mapB es = true) (hi : insB e.1 e.2 = true) : mapB (putE es e).1 = true := by
  by_cases h : e ∈ es
  · rw [putE_has h]; exact hm
  · by_cases h6 : es.length = 6
    · rw [putE_full h h6]; exact hm
    · rw [putE_new h h6]
      exact mapB_snoc hm (by have := mapB_le hm; omega) hi h

end Go.Proofs.Ytbhpogddnpaacaa
