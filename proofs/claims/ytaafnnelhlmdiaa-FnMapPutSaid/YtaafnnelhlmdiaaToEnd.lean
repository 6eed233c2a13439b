/- An end as the law has it becomes an end of the program. No condition. -/
import Derived.Test.YtaafnnelhlmdiaaBase
namespace Go.Proofs.Ytaafnnelhlmdiaa
open Go.RowKit

end Go.Proofs.Ytaafnnelhlmdiaa
