/- An end as the law has it becomes an end of the program. No condition. -/
import Derived.Test.YtniffpanegeekaaDoorBase
namespace Go.Proofs.YtniffpanegeekaaDoor
open Go.RowKit

end Go.Proofs.YtniffpanegeekaaDoor
