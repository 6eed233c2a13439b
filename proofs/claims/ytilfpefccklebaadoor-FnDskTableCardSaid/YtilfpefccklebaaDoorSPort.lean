/- LinPort of the specification, at every end and at what is none. No condition. -/
import Derived.Test.YtilfpefccklebaaDoorSText
import Derived.Test.YtilfpefccklebaaDoorLines
namespace Go.Proofs.YtilfpefccklebaaDoor
open Go.RowKit

/-- The line that names an end. -/
def lpL (a p : Int) : List UInt8 := if endB a p = true then portL ++ endL a.toNat p.toNat else []
theorem port_cat (l : List UInt8) : (⟨#[112, 111, 114, 116, 32]⟩ : ByteArray) ++ ⟨l.toArray⟩ = ⟨(portL ++ l).toArray⟩ := by
  apply ByteArray.ext; simp [portL]

end Go.Proofs.YtilfpefccklebaaDoor
