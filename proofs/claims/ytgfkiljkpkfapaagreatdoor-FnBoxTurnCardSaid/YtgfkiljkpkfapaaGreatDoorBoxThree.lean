/- A block of three cells, as a box takes it: what stands there, and what three stores leave. No condition. -/
import Derived.Test.YtgfkiljkpkfapaaGreatDoorRulLaw
namespace Go.Proofs.YtgfkiljkpkfapaaGreatDoor
open Go.RowKit

theorem three_all {w : World} {b : Nat} {t : TypeId} {x0 x1 x2 : Value} (h : Blk w b t [x0, x1, x2]) :
    (w.cell? ⟨b, 0, none⟩ = some x0 ∧ w.cell? ⟨b, 1, none⟩ = some x1 ∧ w.cell? ⟨b, 2, none⟩ = some x2) ∧ (w.frozen? ⟨b, 0, none⟩ = false ∧ w.frozen? ⟨b, 1, none⟩ = false ∧ w.frozen? ⟨b, 2, none⟩ = false) :=
  ⟨⟨(h.cell 0 x0 rfl).1, (h.cell 1 x1 rfl).1, (h.cell 2 x2 rfl).1⟩, ⟨(h.cell 0 x0 rfl).2, (h.cell 1 x1 rfl).2, (h.cell 2 x2 rfl).2⟩⟩
theorem three_set {w : World} {b : Nat} {t : TypeId} {x0 x1 x2 : Value} (h : Blk w b t [x0, x1, x2]) (u0 u1 u2 : Value) :
    Blk (((w.setCell ⟨b, 0, none⟩ u0).setCell ⟨b, 1, none⟩ u1).setCell ⟨b, 2, none⟩ u2) b t [u0, u1, u2] := ((h.set 0 u0).set 1 u1).set 2 u2
theorem heap_last3 (w : World) (o : Obj) : (w.alloc o).heap[w.heap.size]? = some o := by
  show (w.heap.push o)[w.heap.size]? = some o
  simp
theorem three_new (w : World) (x0 x1 x2 : Value) (t : TypeId) : Blk (w.alloc (.cells #[x0, x1, x2] t)) w.heap.size t [x0, x1, x2] := heap_last3 w _

end Go.Proofs.YtgfkiljkpkfapaaGreatDoor
