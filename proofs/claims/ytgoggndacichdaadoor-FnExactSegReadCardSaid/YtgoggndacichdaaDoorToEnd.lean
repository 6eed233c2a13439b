/- An end as the law has it becomes an end of the program. No condition. -/
import Derived.Test.YtgoggndacichdaaDoorBase
namespace Go.Proofs.YtgoggndacichdaaDoor
open Go.RowKit

end Go.Proofs.YtgoggndacichdaaDoor
