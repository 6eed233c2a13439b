/- A box of five cells: what it holds behind a call, and behind its cells are set. No condition. -/
import Derived.Test.YtilfpefccklebaaDoorGen
namespace Go.Proofs.YtilfpefccklebaaDoor
open Go.RowKit

theorem off_ne {b i j : Nat} (h : i ≠ j) : (⟨b, i, none⟩ : Addr) ≠ ⟨b, j, none⟩ := by intro e; injection e with e1 e2; omega
def Box5 (w : World) (b : Nat) (x0 x1 x2 x3 x4 : Value) : Prop := w.cell? ⟨b, 0, none⟩ = some x0 ∧ w.cell? ⟨b, 1, none⟩ = some x1 ∧ w.cell? ⟨b, 2, none⟩ = some x2 ∧ w.cell? ⟨b, 3, none⟩ = some x3 ∧ w.cell? ⟨b, 4, none⟩ = some x4
theorem Box5.below {w w' : World} {B b : Nat} {x0 x1 x2 x3 x4 : Value} (h : Box5 w b x0 x1 x2 x3 x4) (hb : Below B w w') (hB : b < B) : Box5 w' b x0 x1 x2 x3 x4 := by
  obtain ⟨h0, h1, h2, h3, h4⟩ := h
  exact ⟨(hb.cell (p := ⟨b, 0, none⟩) hB).trans h0, (hb.cell (p := ⟨b, 1, none⟩) hB).trans h1, (hb.cell (p := ⟨b, 2, none⟩) hB).trans h2, (hb.cell (p := ⟨b, 3, none⟩) hB).trans h3, (hb.cell (p := ⟨b, 4, none⟩) hB).trans h4⟩
theorem box5_new (w : World) (x0 x1 x2 x3 x4 : Value) (t : TypeId) : Box5 (w.alloc (.cells #[x0, x1, x2, x3, x4] t)) w.heap.size x0 x1 x2 x3 x4 :=
  ⟨(cell_new w _ t 0).1, (cell_new w _ t 1).1, (cell_new w _ t 2).1, (cell_new w _ t 3).1, (cell_new w _ t 4).1⟩
theorem Box5.lt {w : World} {b : Nat} {x0 x1 x2 x3 x4 : Value} (h : Box5 w b x0 x1 x2 x3 x4) : b < w.heap.size := World.block_lt_of_cell? w _ h.1
theorem Box5.alloc {w : World} {b : Nat} {x0 x1 x2 x3 x4 : Value} (h : Box5 w b x0 x1 x2 x3 x4) (o : Obj) : Box5 (w.alloc o) b x0 x1 x2 x3 x4 := h.below ((Below.refl _ _).alloc (Nat.le_refl _) o) h.lt
theorem Box5.set0 {w : World} {b : Nat} {x0 x1 x2 x3 x4 : Value} (h : Box5 w b x0 x1 x2 x3 x4) (u : Value) : Box5 (w.setCell ⟨b, 0, none⟩ u) b u x1 x2 x3 x4 := by
  obtain ⟨h0, h1, h2, h3, h4⟩ := h
  exact ⟨World.cell?_setCell_same w _ u h0, (World.cell?_setCell_other w _ _ u (off_ne (by decide))).trans h1, (World.cell?_setCell_other w _ _ u (off_ne (by decide))).trans h2, (World.cell?_setCell_other w _ _ u (off_ne (by decide))).trans h3, (World.cell?_setCell_other w _ _ u (off_ne (by decide))).trans h4⟩
theorem Box5.set1 {w : World} {b : Nat} {x0 x1 x2 x3 x4 : Value} (h : Box5 w b x0 x1 x2 x3 x4) (u : Value) : Box5 (w.setCell ⟨b, 1, none⟩ u) b x0 u x2 x3 x4 := by
  obtain ⟨h0, h1, h2, h3, h4⟩ := h
  exact ⟨(World.cell?_setCell_other w _ _ u (off_ne (by decide))).trans h0, World.cell?_setCell_same w _ u h1, (World.cell?_setCell_other w _ _ u (off_ne (by decide))).trans h2, (World.cell?_setCell_other w _ _ u (off_ne (by decide))).trans h3, (World.cell?_setCell_other w _ _ u (off_ne (by decide))).trans h4⟩
theorem Box5.set2 {w : World} {b : Nat} {x0 x1 x2 x3 x4 : Value} (h : Box5 w b x0 x1 x2 x3 x4) (u : Value) : Box5 (w.setCell ⟨b, 2, none⟩ u) b x0 x1 u x3 x4 := by
  obtain ⟨h0, h1, h2, h3, h4⟩ := h
  exact ⟨(World.cell?_setCell_other w _ _ u (off_ne (by decide))).trans h0, (World.cell?_setCell_other w _ _ u (off_ne (by decide))).trans h1, World.cell?_setCell_same w _ u h2, (World.cell?_setCell_other w _ _ u (off_ne (by decide))).trans h3, (World.cell?_setCell_other w _ _ u (off_ne (by decide))).trans h4⟩
theorem Box5.set3 {w : World} {b : Nat} {x0 x1 x2 x3 x4 : Value} (h : Box5 w b x0 x1 x2 x3 x4) (u : Value) : Box5 (w.setCell ⟨b, 3, none⟩ u) b x0 x1 x2 u x4 := by
  obtain ⟨h0, h1, h2, h3, h4⟩ := h
  exact ⟨(World.cell?_setCell_other w _ _ u (off_ne (by decide))).trans h0, (World.cell?_setCell_other w _ _ u (off_ne (by decide))).trans h1, (World.cell?_setCell_other w _ _ u (off_ne (by decide))).trans h2, World.cell?_setCell_same w _ u h3, (World.cell?_setCell_other w _ _ u (off_ne (by decide))).trans h4⟩
theorem Box5.set4 {w : World} {b : Nat} {x0 x1 x2 x3 x4 : Value} (h : Box5 w b x0 x1 x2 x3 x4) (u : Value) : Box5 (w.setCell ⟨b, 4, none⟩ u) b x0 x1 x2 x3 u := by
  obtain ⟨h0, h1, h2, h3, h4⟩ := h
  exact ⟨(World.cell?_setCell_other w _ _ u (off_ne (by decide))).trans h0, (World.cell?_setCell_other w _ _ u (off_ne (by decide))).trans h1, (World.cell?_setCell_other w _ _ u (off_ne (by decide))).trans h2, (World.cell?_setCell_other w _ _ u (off_ne (by decide))).trans h3, World.cell?_setCell_same w _ u h4⟩
theorem Box5.other {w : World} {b c o : Nat} {x0 x1 x2 x3 x4 : Value} (h : Box5 w b x0 x1 x2 x3 x4) (hn : b ≠ c) (u : Value) : Box5 (w.setCell ⟨c, o, none⟩ u) b x0 x1 x2 x3 x4 := by
  obtain ⟨h0, h1, h2, h3, h4⟩ := h
  have hne : ∀ i, (⟨c, o, none⟩ : Addr) ≠ ⟨b, i, none⟩ := fun i e => by injection e with e1 e2; exact hn e1.symm
  exact ⟨(World.cell?_setCell_other w _ _ u (hne 0)).trans h0, (World.cell?_setCell_other w _ _ u (hne 1)).trans h1, (World.cell?_setCell_other w _ _ u (hne 2)).trans h2, (World.cell?_setCell_other w _ _ u (hne 3)).trans h3, (World.cell?_setCell_other w _ _ u (hne 4)).trans h4⟩
theorem Box5.all {w : World} {b : Nat} {x0 x1 x2 x3 x4 : Value} (h : Box5 w b x0 x1 x2 x3 x4) (u0 u1 u2 u3 u4 : Value) : Box5 (((((w.setCell ⟨b, 0, none⟩ u0).setCell ⟨b, 1, none⟩ u1).setCell ⟨b, 2, none⟩ u2).setCell ⟨b, 3, none⟩ u3).setCell ⟨b, 4, none⟩ u4) b u0 u1 u2 u3 u4 := ((((h.set0 u0).set1 u1).set2 u2).set3 u3).set4 u4
/-- No cell of a block is frozen. -/
def Fz (w : World) (b : Nat) : Prop := ∀ i, w.frozen? ⟨b, i, none⟩ = false
theorem fz_new (w : World) (cs : Array Value) (t : TypeId) : Fz (w.alloc (.cells cs t)) w.heap.size := fun i => (cell_new w cs t i).2
theorem Fz.set {w : World} {b : Nat} (h : Fz w b) (a : Addr) (u : Value) : Fz (w.setCell a u) b := fun i => (World.frozen?_setCell w a _ u).trans (h i)
theorem Fz.below {w w' : World} {B b : Nat} (h : Fz w b) (hb : Below B w w') (hB : b < B) : Fz w' b := fun i => (hb.frozen (p := ⟨b, i, none⟩) hB).trans (h i)

end Go.Proofs.YtilfpefccklebaaDoor
