/- The law of BakLine, at every table and text. Condition: the argument's ends lie in the machine's memory; the variables that are read hold what they are laid with. -/
import Derived.Test.YtpilmldcmpbabaaDoorLawBak
import Derived.Test.YtpilmldcmpbabaaDoorIBak
namespace Go.Proofs.YtpilmldcmpbabaaDoor
open Go.RowKit

theorem lawBakLine_any (v : Value) (es : List (Int × Int)) (s : ByteArray) (w : World) (hL : es.length ≤ 9223372036854775807) (ht : ArgTab w v es) (hwf : wfE es) (_ : s.size ≤ maxLen) (hv : VarsOk w) :
    Calls Tryd.prog 3 #[.agg #[v], .string s] w fun e w' => e = .returned (.bool true) ∧ Below w.heap.size w w' :=
  lawBakLine_of VarsOk (fun _ _ h hb => h.below hb) (fun v es s w h1 h2 h3 h4 h5 => implBakLine_any v es s w h1 h2 h3 h4 h5 h5.tab) v es s w hL ht hwf hv

end Go.Proofs.YtpilmldcmpbabaaDoor
