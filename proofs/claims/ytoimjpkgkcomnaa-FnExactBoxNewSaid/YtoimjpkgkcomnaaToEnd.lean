/- An end as the law has it becomes an end of the program. No condition. -/
import Derived.Test.YtoimjpkgkcomnaaBase
namespace Go.Proofs.Ytoimjpkgkcomnaa
open Go.RowKit

end Go.Proofs.Ytoimjpkgkcomnaa
