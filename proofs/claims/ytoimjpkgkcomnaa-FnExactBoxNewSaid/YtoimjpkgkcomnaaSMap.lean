/- l3Find and MapOk of the specification. Condition: the table has at most 2^22 ends. -/
import Derived.Test.YtoimjpkgkcomnaaTabs
import Derived.Test.YtoimjpkgkcomnaaInside
import Derived.Lib.QuietBelow
namespace Go.Proofs.Ytoimjpkgkcomnaa
open Go.RowKit Go.Sort

theorem eqEnds1 : Try.prog.stoodInHeld 54 = false := by kernel_rfl
theorem eqEnds2 : Try.prog.eqGuardType Try.prog.depth 54 = false := by kernel_rfl

end Go.Proofs.Ytoimjpkgkcomnaa
