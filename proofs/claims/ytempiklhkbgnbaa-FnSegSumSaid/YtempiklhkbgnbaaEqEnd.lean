/- How the law compares two ends: of one end it says that it is the same. No condition. -/
import Derived.Test.YtempiklhkbgnbaaBase
namespace Go.Proofs.Ytempiklhkbgnbaa
open Go.RowKit

end Go.Proofs.Ytempiklhkbgnbaa
