/- LinOk of the specification, at every text. Condition: the text has at most 2^48 bytes. -/
import Derived.Test.YtgjhfmlncibpmaaGen
import Derived.Test.YtgjhfmlncibpmaaLines
namespace Go.Proofs.Ytgjhfmlncibpmaa
open Go.RowKit

end Go.Proofs.Ytgjhfmlncibpmaa
