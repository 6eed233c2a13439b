/- The cells of two new blocks, and of worlds in which they stay. No condition. -/
import Derived.Test.YtglpijjkihpeeaaGreatDoorGen
namespace Go.Proofs.YtglpijjkihpeeaaGreatDoor
open Go.RowKit

theorem cell_two {w w1 : World} {ca cb : Array Value} {ta tb : TypeId}
    (h : Below ((w.alloc (.cells ca ta)).alloc (.cells cb tb)).heap.size ((w.alloc (.cells ca ta)).alloc (.cells cb tb)) w1) :
    (∀ i, w1.cell? ⟨w.heap.size, i, none⟩ = ca[i]? ∧ w1.frozen? ⟨w.heap.size, i, none⟩ = false) ∧ (∀ i, w1.cell? ⟨w.heap.size + 1, i, none⟩ = cb[i]? ∧ w1.frozen? ⟨w.heap.size + 1, i, none⟩ = false) ∧
      Below w.heap.size w w1 ∧ w.heap.size + 2 ≤ w1.heap.size := by
  have hs : ((w.alloc (.cells ca ta)).alloc (.cells cb tb)).heap.size = w.heap.size + 2 := by simp
  have h1 : (w.alloc (.cells ca ta)).heap.size = w.heap.size + 1 := by simp
  rw [hs] at h
  have n1 := fun i => cell_new w ca ta i
  have n2 := fun i => cell_new (w.alloc (.cells ca ta)) cb tb i
  rw [h1] at n2
  refine ⟨fun i => ?_, fun i => ?_, ?_, by have := h.size; rw [hs] at this; exact this⟩
  · rw [h.cell (p := ⟨w.heap.size, i, none⟩) (by simp), h.frozen (p := ⟨w.heap.size, i, none⟩) (by simp), cell_alloc_lt (by simp), frozen_alloc_lt (by simp)]
    exact n1 i
  · rw [h.cell (p := ⟨w.heap.size + 1, i, none⟩) (by simp), h.frozen (p := ⟨w.heap.size + 1, i, none⟩) (by simp)]
    exact n2 i
  · exact (((Below.refl _ _).alloc (Nat.le_refl _) _).alloc (by simp) _).trans (h.mono (by omega))

end Go.Proofs.YtglpijjkihpeeaaGreatDoor
