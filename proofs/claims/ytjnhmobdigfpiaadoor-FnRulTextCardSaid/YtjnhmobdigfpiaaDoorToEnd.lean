/- An end as the law has it becomes an end of the program. No condition. -/
import Derived.Test.YtjnhmobdigfpiaaDoorBase
namespace Go.Proofs.YtjnhmobdigfpiaaDoor
open Go.RowKit

end Go.Proofs.YtjnhmobdigfpiaaDoor
