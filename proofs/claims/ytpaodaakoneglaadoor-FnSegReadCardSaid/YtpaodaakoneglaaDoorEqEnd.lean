/- How the law compares two ends: of one end it says that it is the same. No condition. -/
import Derived.Test.YtpaodaakoneglaaDoorBase
namespace Go.Proofs.YtpaodaakoneglaaDoor
open Go.RowKit

end Go.Proofs.YtpaodaakoneglaaDoor
