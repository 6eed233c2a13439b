/- An end as the law has it becomes an end of the program. No condition. -/
import Derived.Test.YthhojghckfkdhaaBase
namespace Go.Proofs.Ythhojghckfkdhaa
open Go.RowKit

end Go.Proofs.Ythhojghckfkdhaa
