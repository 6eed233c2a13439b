/- How the law compares two ends: of one end it says that it is the same. No condition. -/
import Derived.Test.YtgfkiljkpkfapaaGreatDoorBase
namespace Go.Proofs.YtgfkiljkpkfapaaGreatDoor
open Go.RowKit

end Go.Proofs.YtgfkiljkpkfapaaGreatDoor
