/- An end as the law has it becomes an end of the program. No condition. -/
import Derived.Test.YtkjphggoefhgpaaBase
namespace Go.Proofs.Ytkjphggoefhgpaa
open Go.RowKit

end Go.Proofs.Ytkjphggoefhgpaa
