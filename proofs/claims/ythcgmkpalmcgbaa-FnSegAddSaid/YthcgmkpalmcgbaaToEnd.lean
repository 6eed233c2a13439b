/- An end as the law has it becomes an end of the program. No condition. -/
import Derived.Test.YthcgmkpalmcgbaaBase
namespace Go.Proofs.Ythcgmkpalmcgbaa
open Go.RowKit

end Go.Proofs.Ythcgmkpalmcgbaa
