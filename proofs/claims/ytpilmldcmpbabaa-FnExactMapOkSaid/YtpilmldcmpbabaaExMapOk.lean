/- The law of MapOk, at every table. Condition: the argument's ends lie in the machine's memory. -/
import Derived.Test.YtpilmldcmpbabaaLawMapOk
import Derived.Test.YtpilmldcmpbabaaIMapO
namespace Go.Proofs.Ytpilmldcmpbabaa
open Go.RowKit

theorem lawMapOk_any (v : Value) (es : List (Int × Int)) (w : World) (hL : es.length ≤ 9223372036854775807) (ht : ArgTab w v es) (hwf : wfE es) :
    Calls Try.prog 3 #[.agg #[v]] w fun e w' => e = .returned (.bool true) ∧ Below w.heap.size w w' :=
  lawMapOk_of (fun v es w h1 h2 h3 => implMapOk_any v es w h1 h2 h3) v es w hL ht hwf

end Go.Proofs.Ytpilmldcmpbabaa
