/- An end as the law has it becomes an end of the program. No condition. -/
import Derived.Test.YtjnhmobdigfpiaaBase
namespace Go.Proofs.Ytjnhmobdigfpiaa
open Go.RowKit

end Go.Proofs.Ytjnhmobdigfpiaa
