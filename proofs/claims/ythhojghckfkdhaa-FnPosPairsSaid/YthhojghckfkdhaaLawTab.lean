/- The laws' own words on tables of ends: their size, whether two are the same. Condition: at most 2^22 ends. -/
import Derived.Test.YthhojghckfkdhaaSMap
import Derived.Test.YthhojghckfkdhaaEqEnd
namespace Go.Proofs.Ythhojghckfkdhaa
open Go.RowKit Go.Sort

end Go.Proofs.Ythhojghckfkdhaa
