/- How the law compares two ends: of one end it says that it is the same. No condition. -/
import Derived.Test.YtkjphggoefhgpaaBase
namespace Go.Proofs.Ytkjphggoefhgpaa
open Go.RowKit

end Go.Proofs.Ytkjphggoefhgpaa
