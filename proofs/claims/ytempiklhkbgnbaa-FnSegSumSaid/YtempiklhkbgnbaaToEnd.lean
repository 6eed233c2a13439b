/- An end as the law has it becomes an end of the program. No condition. -/
import Derived.Test.YtempiklhkbgnbaaBase
namespace Go.Proofs.Ytempiklhkbgnbaa
open Go.RowKit

end Go.Proofs.Ytempiklhkbgnbaa
