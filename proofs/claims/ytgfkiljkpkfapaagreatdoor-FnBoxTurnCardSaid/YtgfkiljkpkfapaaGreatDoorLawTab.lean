/- The laws' own words on tables of ends: their size, whether two are the same. Condition: at most 2^22 ends. -/
import Derived.Test.YtgfkiljkpkfapaaGreatDoorSMap
import Derived.Test.YtgfkiljkpkfapaaGreatDoorEqEnd
namespace Go.Proofs.YtgfkiljkpkfapaaGreatDoor
open Go.RowKit Go.Sort

end Go.Proofs.YtgfkiljkpkfapaaGreatDoor
