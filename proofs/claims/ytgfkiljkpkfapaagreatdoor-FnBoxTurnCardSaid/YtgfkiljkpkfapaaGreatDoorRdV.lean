/- What a list of texts reads as, in a world. No condition. -/
import Derived.Test.YtgfkiljkpkfapaaGreatDoorGen
namespace Go.Proofs.YtgfkiljkpkfapaaGreatDoor
open Go.RowKit

/-- The cells of a row, none of them frozen. -/
def RowAt (w : World) (g : Nat) (xs : List Value) : Prop := ∀ i (hi : i < xs.length), w.cell? ⟨g, i, none⟩ = some xs[i] ∧ w.frozen? ⟨g, i, none⟩ = false
theorem RowAt.below {w w' : World} {B g : Nat} {xs : List Value} (h : RowAt w g xs) (hb : Below B w w') (hg : g < B) : RowAt w' g xs :=
  fun i hi => ⟨(hb.cell (p := ⟨g, i, none⟩) hg).trans (h i hi).1, (hb.frozen (p := ⟨g, i, none⟩) hg).trans (h i hi).2⟩
theorem RowAt.lt {w : World} {g : Nat} {xs : List Value} (h : RowAt w g xs) (hn : 0 < xs.length) : g < w.heap.size := World.block_lt_of_cell? w _ (h 0 hn).1
theorem addr_ne {g i j : Nat} (h : i ≠ j) : (⟨g, i, none⟩ : Addr) ≠ ⟨g, j, none⟩ := by intro e; injection e with _ e2; exact h e2
theorem RowAt.set {w : World} {g i : Nat} {xs : List Value} (h : RowAt w g xs) (hi : i < xs.length) (u : Value) : RowAt (w.setCell ⟨g, i, none⟩ u) g (xs.set i u) := by
  intro j hj
  have hj' : j < xs.length := by simpa using hj
  refine ⟨?_, by rw [World.frozen?_setCell]; exact (h j hj').2⟩
  by_cases e : i = j
  · subst e
    rw [World.cell?_setCell_same _ _ _ (h i hi).1]; simp
  · rw [World.cell?_setCell_other _ _ _ u (addr_ne e), (h j hj').1]
    simp [e]
/-- A slice reads as these cells. -/
def RdV (w : World) (v : Value) (xs : List Value) : Prop := ∃ a cap, v = .slice a xs.length cap ∧ (0 < xs.length → ∃ g, a = some ⟨g, 0, none⟩ ∧ RowAt w g xs)
theorem RdV.below {w w' : World} {v : Value} {xs : List Value} (h : RdV w v xs) (hb : Below w.heap.size w w') : RdV w' v xs := by
  obtain ⟨a, cap, rfl, hr⟩ := h
  refine ⟨a, cap, rfl, fun hn => ?_⟩
  obtain ⟨g, rfl, hrow⟩ := hr hn
  exact ⟨g, rfl, hrow.below hb (hrow.lt hn)⟩
theorem RdV.of_own {w : World} {B n : Nat} {e : TypeId} {v : Value} {xs : List Value} (h : w.ownsRow B e 1 v n xs) : RdV w v xs ∧ xs.length = n := by
  have hl : xs.length = n := by rw [h.1]; omega
  obtain ⟨a, cap, e⟩ := own_form h
  refine ⟨⟨a, cap, by rw [e, hl], fun hn => ?_⟩, hl⟩
  obtain ⟨g, cap', e', _, _, _, hc⟩ := own_cells h (by omega)
  rw [e] at e'
  simp at e'
  exact ⟨g, e'.1, hc⟩
theorem eq_cell {w : World} {g i : Nat} {xs : List Value} (h : RowAt w g xs) (hi : i < xs.length) : w.cell? ⟨g, i, none⟩ = some xs[i] := (h i hi).1

end Go.Proofs.YtgfkiljkpkfapaaGreatDoor
