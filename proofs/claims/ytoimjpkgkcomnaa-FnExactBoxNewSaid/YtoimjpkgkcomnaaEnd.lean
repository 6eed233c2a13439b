/- EndOutside and EndOk of the program and of the specification, at every end; the world below the call stays as it was. No condition. -/
import Derived.Test.YtoimjpkgkcomnaaInside
namespace Go.Proofs.Ytoimjpkgkcomnaa
open Go.RowKit

end Go.Proofs.Ytoimjpkgkcomnaa
