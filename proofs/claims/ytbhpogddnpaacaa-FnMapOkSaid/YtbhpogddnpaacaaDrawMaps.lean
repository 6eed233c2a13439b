/- The tables that are drawn for the laws of chapter 3. Condition: the code lies in memory. -/
import Derived.Test.YtbhpogddnpaacaaDrawTab
namespace Go.Proofs.Ytbhpogddnpaacaa
open Go.RowKit

set_option maxRecDepth 100000 in
set_option maxHeartbeats 1600000 in
theorem drawMapOk_any (ao : Option Addr) (n cap : Nat) (w : World) (h : BytesIn w ao n) (hn : n ≤ cap) :
    Calls Try.prog 10 #[.slice ao n cap] w fun e w' => ∃ g c us, e = .returned (.agg #[.slice g (us : List (Int × Int)).length c]) ∧ OwnTab w' w.heap.size (.slice g us.length c) us ∧ (us.length ≤ 8 ∧ SmE us) ∧ Below w.heap.size w w' := by
  have H := Lib.hid h
  clear h
  go_enter Try.func10, Try.ntmps10
  go_wp2_with fail
  (go_at_call 15; refine (open_any ao n cap _ (H.out.below ((Below.refl _ _).alloc (Nat.le_refl _) _)) hn).mono ?_; rintro e w1 ⟨R, rfl, hR, b1, r1⟩)
  have s1 := b1.size
  simp only [World.size_alloc] at s1 hR r1
  have R1 := Lib.hid r1
  have B1 := Lib.hid b1
  have x1 : w1.cell? ⟨w.heap.size, 0, none⟩ = some (.slice none 0 0) := by rw [b1.cell (by simp)]; simp
  clear r1 b1
  go_wp2_with fail
  (go_at_call 23; refine (table_any 2 (w.heap.size + 1) R 0 _ R1.out (by omega) (by omega) (by omega)).mono ?_; rintro e w2 ⟨g, c, us, rfl, ho, hu, g2, r2⟩)
  have x2 := gbox x1 g2 (by omega)
  have f2 : w2.frozen? ⟨w.heap.size, 0, none⟩ = false := gboxf x1 (by rw [B1.out.frozen (by simp)]; exact (cell_new w _ _ 0).2) g2 (by omega)
  have bAll : Below w.heap.size w w2 := ((Below.refl _ w).alloc (Nat.le_refl _) _).trans ((B1.out.mono (by simp)).grown g2 (by omega) (fun k e => by cases e; omega))
  have BA := Lib.hid bAll
  have HO := Lib.hid ho
  have HU := Lib.hid hu
  clear bAll g2 r2 ho hu
  go_wp2_with fail
  refine bodyPost_ret (v := .agg #[.slice g us.length c]) (by simp [results, Try.results10, go_sem, World.cell?_setCell_same _ _ _ x2]) rfl ⟨_, _, us, rfl, ?_, HU.out, ?_⟩
  · exact OwnTab.mono (ownsRow_setCell_below (a := ⟨w.heap.size, 0, none⟩) HO.out (by simp; omega) _) (by omega)
  · exact BA.out.setCell (Nat.le_refl _) _

theorem fin_a {w0 w : World} {C c : Nat} {g : Option Addr} {us : List (Int × Int)} {x y v : Value} (a p : Int) (hx : w.cell? ⟨w0.heap.size, 0, none⟩ = some x) (hy : w.cell? ⟨w0.heap.size + 1, 0, none⟩ = some y) (hv : w.cell? ⟨w0.heap.size + 1, 1, none⟩ = some v) (ho : OwnTab w C (.slice g us.length c) us) (hC : w0.heap.size + 2 ≤ C) (hb : Below w0.heap.size w0 w) :
    ((((w.setCell ⟨w0.heap.size, 0, none⟩ (.slice g us.length c)).setCell ⟨w0.heap.size + 1, 0, none⟩ (.int .i64 a)).setCell ⟨w0.heap.size + 1, 1, none⟩ (.int .i64 p)).cell? ⟨w0.heap.size, 0, none⟩ = some (.slice g us.length c) ∧ (((w.setCell ⟨w0.heap.size, 0, none⟩ (.slice g us.length c)).setCell ⟨w0.heap.size + 1, 0, none⟩ (.int .i64 a)).setCell ⟨w0.heap.size + 1, 1, none⟩ (.int .i64 p)).cell? ⟨w0.heap.size + 1, 0, none⟩ = some (.int .i64 a) ∧ (((w.setCell ⟨w0.heap.size, 0, none⟩ (.slice g us.length c)).setCell ⟨w0.heap.size + 1, 0, none⟩ (.int .i64 a)).setCell ⟨w0.heap.size + 1, 1, none⟩ (.int .i64 p)).cell? ⟨w0.heap.size + 1, 1, none⟩ = some (.int .i64 p)) ∧ OwnTab (((w.setCell ⟨w0.heap.size, 0, none⟩ (.slice g us.length c)).setCell ⟨w0.heap.size + 1, 0, none⟩ (.int .i64 a)).setCell ⟨w0.heap.size + 1, 1, none⟩ (.int .i64 p)) w0.heap.size (.slice g us.length c) us ∧ Below w0.heap.size w0 (((w.setCell ⟨w0.heap.size, 0, none⟩ (.slice g us.length c)).setCell ⟨w0.heap.size + 1, 0, none⟩ (.int .i64 a)).setCell ⟨w0.heap.size + 1, 1, none⟩ (.int .i64 p)) := by
  have n1 : (⟨w0.heap.size + 1, 0, none⟩ : Addr) ≠ ⟨w0.heap.size, 0, none⟩ := by simp
  have n2 : (⟨w0.heap.size + 1, 1, none⟩ : Addr) ≠ ⟨w0.heap.size, 0, none⟩ := by simp
  have hy' : (w.setCell ⟨w0.heap.size, 0, none⟩ (.slice g us.length c)).cell? ⟨w0.heap.size + 1, 0, none⟩ = some y := (World.cell?_setCell_other _ _ _ _ n1.symm).trans hy
  have hv' : (w.setCell ⟨w0.heap.size, 0, none⟩ (.slice g us.length c)).cell? ⟨w0.heap.size + 1, 1, none⟩ = some v := (World.cell?_setCell_other _ _ _ _ n2.symm).trans hv
  obtain ⟨_, q1, q2⟩ := set_two (w := w.setCell ⟨w0.heap.size, 0, none⟩ (.slice g us.length c)) (b := w0.heap.size + 1) (x := y) (y := v) (.int .i64 a) (.int .i64 p) hy' hv'
  refine ⟨⟨?_, q1, q2⟩, ?_, ?_⟩
  · rw [World.cell?_setCell_other _ _ _ _ n2, World.cell?_setCell_other _ _ _ _ n1]; exact World.cell?_setCell_same _ _ _ hx
  · exact OwnTab.mono (B := C) (ownsRow_setCell_below (a := ⟨w0.heap.size + 1, 1, none⟩) (ownsRow_setCell_below (a := ⟨w0.heap.size + 1, 0, none⟩) (ownsRow_setCell_below (a := ⟨w0.heap.size, 0, none⟩) (ho) (by simp; omega) _) (by simp; omega) _) (by simp; omega) _) (by omega)
  · exact (((hb).setCell (by simp) _).setCell (by simp) _).setCell (by simp) _

theorem fin_b {w0 w : World} {C c : Nat} {g : Option Addr} {us : List (Int × Int)} {x y v : Value} (a p : Int) (hx : w.cell? ⟨w0.heap.size, 0, none⟩ = some x) (hy : w.cell? ⟨w0.heap.size + 1, 0, none⟩ = some y) (hv : w.cell? ⟨w0.heap.size + 1, 1, none⟩ = some v) (ho : OwnTab w C (.slice g us.length c) us) (hC : w0.heap.size + 2 ≤ C) (hb : Below w0.heap.size w0 w) :
    ((((w.setCell ⟨w0.heap.size + 1, 0, none⟩ (.int .i64 a)).setCell ⟨w0.heap.size + 1, 1, none⟩ (.int .i64 p)).setCell ⟨w0.heap.size, 0, none⟩ (.slice g us.length c)).cell? ⟨w0.heap.size, 0, none⟩ = some (.slice g us.length c) ∧ (((w.setCell ⟨w0.heap.size + 1, 0, none⟩ (.int .i64 a)).setCell ⟨w0.heap.size + 1, 1, none⟩ (.int .i64 p)).setCell ⟨w0.heap.size, 0, none⟩ (.slice g us.length c)).cell? ⟨w0.heap.size + 1, 0, none⟩ = some (.int .i64 a) ∧ (((w.setCell ⟨w0.heap.size + 1, 0, none⟩ (.int .i64 a)).setCell ⟨w0.heap.size + 1, 1, none⟩ (.int .i64 p)).setCell ⟨w0.heap.size, 0, none⟩ (.slice g us.length c)).cell? ⟨w0.heap.size + 1, 1, none⟩ = some (.int .i64 p)) ∧ OwnTab (((w.setCell ⟨w0.heap.size + 1, 0, none⟩ (.int .i64 a)).setCell ⟨w0.heap.size + 1, 1, none⟩ (.int .i64 p)).setCell ⟨w0.heap.size, 0, none⟩ (.slice g us.length c)) w0.heap.size (.slice g us.length c) us ∧ Below w0.heap.size w0 (((w.setCell ⟨w0.heap.size + 1, 0, none⟩ (.int .i64 a)).setCell ⟨w0.heap.size + 1, 1, none⟩ (.int .i64 p)).setCell ⟨w0.heap.size, 0, none⟩ (.slice g us.length c)) := by
  have n1 : (⟨w0.heap.size + 1, 0, none⟩ : Addr) ≠ ⟨w0.heap.size, 0, none⟩ := by simp
  have n2 : (⟨w0.heap.size + 1, 1, none⟩ : Addr) ≠ ⟨w0.heap.size, 0, none⟩ := by simp
  obtain ⟨_, q1, q2⟩ := set_two (w := w) (b := w0.heap.size + 1) (x := y) (y := v) (.int .i64 a) (.int .i64 p) hy hv
  refine ⟨⟨?_, ?_, ?_⟩, ?_, ?_⟩
  · exact World.cell?_setCell_same _ _ _ (((World.cell?_setCell_other _ _ _ _ n2).trans (World.cell?_setCell_other _ _ _ _ n1)).trans hx)
  · exact (World.cell?_setCell_other _ _ _ _ n1.symm).trans q1
  · exact (World.cell?_setCell_other _ _ _ _ n2.symm).trans q2
  · exact OwnTab.mono (B := C) (ownsRow_setCell_below (a := ⟨w0.heap.size, 0, none⟩) (ownsRow_setCell_below (a := ⟨w0.heap.size + 1, 1, none⟩) (ownsRow_setCell_below (a := ⟨w0.heap.size + 1, 0, none⟩) (ho) (by simp; omega) _) (by simp; omega) _) (by simp; omega) _) (by omega)
  · exact (((hb).setCell (by simp) _).setCell (by simp) _).setCell (by simp) _

theorem own_at {w : World} {B g c : Nat} {us : List (Int × Int)} {k : Nat} {a p : Int} (h : OwnTab w B (.slice (some ⟨g, 0, none⟩) us.length c) us) (hk : k < us.length) (e : (a, p) = us[k]) : w.cell? ⟨g, k * 2, none⟩ = some (.int .i64 a) ∧ w.cell? ⟨g, k * 2 + 1, none⟩ = some (.int .i64 p) := by
  obtain ⟨x, cap, e1, _, hrow⟩ := h.tab
  simp at e1
  obtain ⟨g', e2, hat⟩ := hrow (by omega)
  rw [← e1.1] at e2
  simp at e2
  subst e2
  have := hat k hk
  rw [← e] at this
  exact this
theorem own_some {w : World} {B c : Nat} {g : Option Addr} {us : List (Int × Int)} (h : OwnTab w B (.slice g us.length c) us) (h0 : 0 < us.length) : ∃ g0, g = some ⟨g0, 0, none⟩ := by
  obtain ⟨x, cap, e1, _, hrow⟩ := h.tab
  simp at e1
  obtain ⟨g', e2, _⟩ := hrow h0
  exact ⟨g', e1.1.trans e2⟩

end Go.Proofs.Ytbhpogddnpaacaa
