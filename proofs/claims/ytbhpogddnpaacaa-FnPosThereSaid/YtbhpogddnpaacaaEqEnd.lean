/- How the law compares two ends: of one end it says that it is the same. No condition. -/
import Derived.Test.YtbhpogddnpaacaaBase
namespace Go.Proofs.Ytbhpogddnpaacaa
open Go.RowKit

end Go.Proofs.Ytbhpogddnpaacaa
