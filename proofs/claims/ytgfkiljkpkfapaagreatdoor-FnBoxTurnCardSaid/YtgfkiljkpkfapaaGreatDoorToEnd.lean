/- An end as the law has it becomes an end of the program. No condition. -/
import Derived.Test.YtgfkiljkpkfapaaGreatDoorBase
namespace Go.Proofs.YtgfkiljkpkfapaaGreatDoor
open Go.RowKit

end Go.Proofs.YtgfkiljkpkfapaaGreatDoor
