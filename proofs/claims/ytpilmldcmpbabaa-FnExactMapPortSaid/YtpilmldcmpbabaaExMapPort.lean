/- The law of MapPort, at every table. Condition: the argument's ends lie in the machine's memory. -/
import Derived.Test.YtpilmldcmpbabaaLawMapPort
import Derived.Test.YtpilmldcmpbabaaIMapE
namespace Go.Proofs.Ytpilmldcmpbabaa
open Go.RowKit

theorem lawMapPort_any (v : Value) (es : List (Int × Int)) (a p : Int) (w : World) (hL : es.length ≤ 9223372036854775807) (ht : ArgTab w v es) (hwf : wfE es) (wa : (Lit.int .i64 a).wf = true) (wp : (Lit.int .i64 p).wf = true) :
    Calls Try.prog 4 #[.agg #[v], .agg #[.int .i64 a, .int .i64 p]] w fun e w' => e = .returned (.bool true) ∧ Below w.heap.size w w' :=
  lawMapPort_of (fun v es a p w h1 h2 h3 h4 h5 => implMapPort_any v es a p w h1 h2 h3 h4 h5) v es a p w hL ht hwf wa wp

end Go.Proofs.Ytpilmldcmpbabaa
