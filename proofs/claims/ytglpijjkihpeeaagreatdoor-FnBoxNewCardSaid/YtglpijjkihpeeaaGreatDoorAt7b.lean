/- Seven cells that may be written, beside what is new. -/
import Derived.Test.YtglpijjkihpeeaaGreatDoorAt7
import Derived.Test.YtglpijjkihpeeaaGreatDoorDraw
namespace Go.Proofs.YtglpijjkihpeeaaGreatDoor
open Go.RowKit

theorem At7.below {w w' : World} {b : Nat} {x0 x1 x2 x3 x4 x5 x6 : Value} (h : At7 w b x0 x1 x2 x3 x4 x5 x6) (hb : Below w.heap.size w w') : At7 w' b x0 x1 x2 x3 x4 x5 x6 := by
  obtain ⟨hlt, ⟨c0, c1, c2, c3, c4, c5, c6⟩, f0, f1, f2, f3, f4, f5, f6⟩ := h
  obtain ⟨c, f⟩ := bcell hb
  have s := hb.size
  exact ⟨by omega, ⟨(c _ _ hlt).trans c0, (c _ _ hlt).trans c1, (c _ _ hlt).trans c2, (c _ _ hlt).trans c3, (c _ _ hlt).trans c4, (c _ _ hlt).trans c5, (c _ _ hlt).trans c6⟩, (f _ _ hlt).trans f0, (f _ _ hlt).trans f1, (f _ _ hlt).trans f2, (f _ _ hlt).trans f3, (f _ _ hlt).trans f4, (f _ _ hlt).trans f5, (f _ _ hlt).trans f6⟩
theorem At7.alloc {w : World} {b : Nat} {x0 x1 x2 x3 x4 x5 x6 : Value} (h : At7 w b x0 x1 x2 x3 x4 x5 x6) (o : Obj) : At7 (w.alloc o) b x0 x1 x2 x3 x4 x5 x6 := h.below ((Below.refl _ w).alloc (Nat.le_refl _) o)

end Go.Proofs.YtglpijjkihpeeaaGreatDoor
