/- The laws' own words on tables of ends: their size, whether two are the same. Condition: at most 2^22 ends. -/
import Derived.Test.YtbhpogddnpaacaaSMap
import Derived.Test.YtbhpogddnpaacaaEqEnd
namespace Go.Proofs.Ytbhpogddnpaacaa
open Go.RowKit Go.Sort

end Go.Proofs.Ytbhpogddnpaacaa
