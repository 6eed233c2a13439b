/- A text with one byte put in, taken out or turned: some text of at most one byte more; nothing but the reader's place turns. Conditions: the reader is there; its place is small; the text has at most 2000 bytes. -/
import Derived.Test.YtjnhmobdigfpiaaDraw
import Derived.Test.YtjnhmobdigfpiaaByte
import Derived.RegionTactic
namespace Go.Proofs.Ytjnhmobdigfpiaa
open Go.RowKit

theorem grown_drew (w : World) (row : Option Nat) : w.grownBy w.drew row := ⟨rfl, rfl, rfl, Nat.le_refl _, fun _ _ _ => rfl⟩

end Go.Proofs.Ytjnhmobdigfpiaa
