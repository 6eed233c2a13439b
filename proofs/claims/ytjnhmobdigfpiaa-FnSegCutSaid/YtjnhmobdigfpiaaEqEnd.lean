/- How the law compares two ends: of one end it says that it is the same. No condition. -/
import Derived.Test.YtjnhmobdigfpiaaBase
namespace Go.Proofs.Ytjnhmobdigfpiaa
open Go.RowKit

end Go.Proofs.Ytjnhmobdigfpiaa
