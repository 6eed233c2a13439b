/- The program's MapOk answers as the document says. Conditions: at most 2^22 ends; all numbers are ints. -/
import Derived.Test.YtglpijjkihpeeaaGreatDoorIMapO1
import Derived.Test.YtglpijjkihpeeaaGreatDoorIMapO2
import Derived.Test.YtglpijjkihpeeaaGreatDoorIMapO3
namespace Go.Proofs.YtglpijjkihpeeaaGreatDoor
open Go.RowKit

theorem implMapOk_any (v : Value) (es : List (Int × Int)) (w : World) (hn : es.length ≤ 4194304) (hwf : wfE es) (ht : TabAt w v es) :
    Calls Tryz.prog 46 #[.agg #[v]] w fun e w' => e = .returned (.bool (mapB es)) ∧ Below w.heap.size w w' := by
  by_cases h6 : 6 < es.length
  · exact implMapOk_big v es w ht h6
  · by_cases hin : es.all (fun e => insB e.1 e.2) = true
    · exact implMapOk_all v es w hn hwf ht h6 hin
    · exact implMapOk_not v es w hn ht h6 hin

end Go.Proofs.YtglpijjkihpeeaaGreatDoor
