/- The lines that are drawn: some text of at most 40 bytes; nothing but the reader's place turns. Conditions: the reader is there; its place is small. -/
import Derived.Test.YtilfpefccklebaaDoorDraw
import Derived.Test.YtilfpefccklebaaDoorSPort
namespace Go.Proofs.YtilfpefccklebaaDoor
open Go.RowKit

theorem grown_of_below {w w' : World} (h : Below w.heap.size w w') (row : Option Nat) : w.grownBy w' row := ⟨h.os, h.tape, h.output, h.size, fun k hk _ => h.block k hk⟩
theorem lpL_len (a p : Int) : (lpL a p).length ≤ 20 := by
  unfold lpL
  split
  · rename_i h
    obtain ⟨h1, h2, h3, h4⟩ := end_bounds h
    have l1 := dec_len4 (k := a.toNat) (by omega)
    have l2 := dec_len4 (k := p.toNat) (by omega)
    simp [portL, endL]; omega
  · simp

end Go.Proofs.YtilfpefccklebaaDoor
