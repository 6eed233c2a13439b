/- How the law compares two ends: of one end it says that it is the same. No condition. -/
import Derived.Test.YthcgmkpalmcgbaaBase
namespace Go.Proofs.Ythcgmkpalmcgbaa
open Go.RowKit

end Go.Proofs.Ythcgmkpalmcgbaa
