/- The law of MapEnd, at every table. Condition: the argument's ends lie in the machine's memory. -/
import Derived.Test.YtpilmldcmpbabaaLawMapEnd
import Derived.Test.YtpilmldcmpbabaaIMapE
namespace Go.Proofs.Ytpilmldcmpbabaa
open Go.RowKit

theorem lawMapEnd_any (v : Value) (es : List (Int × Int)) (n : Int) (w : World) (hL : es.length ≤ 9223372036854775807) (ht : ArgTab w v es) (hwf : wfE es) (wn : (Lit.int .i64 n).wf = true) :
    Calls Try.prog 5 #[.agg #[v], .int .i64 n] w fun e w' => e = .returned (.bool true) ∧ Below w.heap.size w w' :=
  lawMapEnd_of (fun v es n w h1 h2 h3 h4 => implMapEnd_any v es n w h1 h2 h3 h4) v es n w hL ht hwf wn

end Go.Proofs.Ytpilmldcmpbabaa
