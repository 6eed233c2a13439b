/- The laws' own words on tables of ends: their size, whether two are the same. Condition: at most 2^22 ends. -/
import Derived.Test.YtaafnnelhlmdiaaSMap
import Derived.Test.YtaafnnelhlmdiaaEqEnd
namespace Go.Proofs.Ytaafnnelhlmdiaa
open Go.RowKit Go.Sort

end Go.Proofs.Ytaafnnelhlmdiaa
