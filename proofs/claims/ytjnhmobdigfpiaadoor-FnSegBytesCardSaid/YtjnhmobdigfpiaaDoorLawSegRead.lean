/- The law of SegRead, at all bytes. Condition: the sentinels that are read are there. -/
import Derived.Test.YtjnhmobdigfpiaaDoorImpR5
import Derived.Test.YtjnhmobdigfpiaaDoorByLaw
namespace Go.Proofs.YtjnhmobdigfpiaaDoor
open Go.RowKit

theorem rd_row {w : World} {g : Nat} {l : List UInt8} (h : RowAt w g (byV l)) : RdB w (.slice (some ⟨g, 0, none⟩) l.length l.length) l := ⟨_, _, rfl, Nat.le_refl _, fun _ => ⟨g, rfl, h⟩⟩

end Go.Proofs.YtjnhmobdigfpiaaDoor
