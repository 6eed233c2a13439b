/- How the law compares two ends: of one end it says that it is the same. No condition. -/
import Derived.Test.YtniffpanegeekaaDoorBase
namespace Go.Proofs.YtniffpanegeekaaDoor
open Go.RowKit

end Go.Proofs.YtniffpanegeekaaDoor
