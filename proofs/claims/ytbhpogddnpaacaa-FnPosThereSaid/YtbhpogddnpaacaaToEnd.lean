/- An end as the law has it becomes an end of the program. No condition. -/
import Derived.Test.YtbhpogddnpaacaaBase
namespace Go.Proofs.Ytbhpogddnpaacaa
open Go.RowKit

end Go.Proofs.Ytbhpogddnpaacaa
