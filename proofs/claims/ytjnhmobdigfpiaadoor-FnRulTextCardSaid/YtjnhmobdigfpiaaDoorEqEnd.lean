/- How the law compares two ends: of one end it says that it is the same. No condition. -/
import Derived.Test.YtjnhmobdigfpiaaDoorBase
namespace Go.Proofs.YtjnhmobdigfpiaaDoor
open Go.RowKit

end Go.Proofs.YtjnhmobdigfpiaaDoor
