/- An element of an array of six numbers, by value. No condition. -/
import Derived.Test.YtempiklhkbgnbaaBase
namespace Go.Proofs.Ytempiklhkbgnbaa
open Go.RowKit

end Go.Proofs.Ytempiklhkbgnbaa
