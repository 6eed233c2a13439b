/- An end as the law has it becomes an end of the program. No condition. -/
import Derived.Test.YtpaodaakoneglaaDoorBase
namespace Go.Proofs.YtpaodaakoneglaaDoor
open Go.RowKit

end Go.Proofs.YtpaodaakoneglaaDoor
