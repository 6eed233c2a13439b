/- A segment as the law has it becomes one of the program; what the law says of its size; two of the same segment are found the same. Condition: its bytes are at most 2^63 - 1. -/
import Derived.Test.YtglpijjkihpeeaaGreatDoorGen
import Derived.Test.YtglpijjkihpeeaaGreatDoorToEnd
import Derived.Test.YtglpijjkihpeeaaGreatDoorEqEnd
namespace Go.Proofs.YtglpijjkihpeeaaGreatDoor
open Go.RowKit

theorem seg_ne {g i j : Nat} (h : i ≠ j) : (⟨g, i, none⟩ : Addr) ≠ ⟨g, j, none⟩ := by intro e; injection e with _ e2; exact h e2
/-- Seven stores into one block, read back. -/
theorem set_seven {w : World} {b : Nat} {x0 x1 x2 x3 x4 x5 x6 : Value} (u0 u1 u2 u3 u4 u5 u6 : Value) (h0 : w.cell? ⟨b, 0, none⟩ = some x0) (h1 : w.cell? ⟨b, 1, none⟩ = some x1) (h2 : w.cell? ⟨b, 2, none⟩ = some x2) (h3 : w.cell? ⟨b, 3, none⟩ = some x3) (h4 : w.cell? ⟨b, 4, none⟩ = some x4) (h5 : w.cell? ⟨b, 5, none⟩ = some x5) (h6 : w.cell? ⟨b, 6, none⟩ = some x6) :
    (((((((w.setCell ⟨b, 0, none⟩ u0).setCell ⟨b, 1, none⟩ u1).setCell ⟨b, 2, none⟩ u2).setCell ⟨b, 3, none⟩ u3).setCell ⟨b, 4, none⟩ u4).setCell ⟨b, 5, none⟩ u5).setCell ⟨b, 6, none⟩ u6).cell? ⟨b, 0, none⟩ = some u0 ∧ (((((((w.setCell ⟨b, 0, none⟩ u0).setCell ⟨b, 1, none⟩ u1).setCell ⟨b, 2, none⟩ u2).setCell ⟨b, 3, none⟩ u3).setCell ⟨b, 4, none⟩ u4).setCell ⟨b, 5, none⟩ u5).setCell ⟨b, 6, none⟩ u6).cell? ⟨b, 1, none⟩ = some u1 ∧ (((((((w.setCell ⟨b, 0, none⟩ u0).setCell ⟨b, 1, none⟩ u1).setCell ⟨b, 2, none⟩ u2).setCell ⟨b, 3, none⟩ u3).setCell ⟨b, 4, none⟩ u4).setCell ⟨b, 5, none⟩ u5).setCell ⟨b, 6, none⟩ u6).cell? ⟨b, 2, none⟩ = some u2 ∧ (((((((w.setCell ⟨b, 0, none⟩ u0).setCell ⟨b, 1, none⟩ u1).setCell ⟨b, 2, none⟩ u2).setCell ⟨b, 3, none⟩ u3).setCell ⟨b, 4, none⟩ u4).setCell ⟨b, 5, none⟩ u5).setCell ⟨b, 6, none⟩ u6).cell? ⟨b, 3, none⟩ = some u3 ∧ (((((((w.setCell ⟨b, 0, none⟩ u0).setCell ⟨b, 1, none⟩ u1).setCell ⟨b, 2, none⟩ u2).setCell ⟨b, 3, none⟩ u3).setCell ⟨b, 4, none⟩ u4).setCell ⟨b, 5, none⟩ u5).setCell ⟨b, 6, none⟩ u6).cell? ⟨b, 4, none⟩ = some u4 ∧ (((((((w.setCell ⟨b, 0, none⟩ u0).setCell ⟨b, 1, none⟩ u1).setCell ⟨b, 2, none⟩ u2).setCell ⟨b, 3, none⟩ u3).setCell ⟨b, 4, none⟩ u4).setCell ⟨b, 5, none⟩ u5).setCell ⟨b, 6, none⟩ u6).cell? ⟨b, 5, none⟩ = some u5 ∧ (((((((w.setCell ⟨b, 0, none⟩ u0).setCell ⟨b, 1, none⟩ u1).setCell ⟨b, 2, none⟩ u2).setCell ⟨b, 3, none⟩ u3).setCell ⟨b, 4, none⟩ u4).setCell ⟨b, 5, none⟩ u5).setCell ⟨b, 6, none⟩ u6).cell? ⟨b, 6, none⟩ = some u6 := by
  refine ⟨?_, ?_, ?_, ?_, ?_, ?_, ?_⟩
  · exact ((World.cell?_setCell_other _ _ _ _ (seg_ne (show 6 ≠ 0 by decide))).trans ((World.cell?_setCell_other _ _ _ _ (seg_ne (show 5 ≠ 0 by decide))).trans ((World.cell?_setCell_other _ _ _ _ (seg_ne (show 4 ≠ 0 by decide))).trans ((World.cell?_setCell_other _ _ _ _ (seg_ne (show 3 ≠ 0 by decide))).trans ((World.cell?_setCell_other _ _ _ _ (seg_ne (show 2 ≠ 0 by decide))).trans ((World.cell?_setCell_other _ _ _ _ (seg_ne (show 1 ≠ 0 by decide))).trans (World.cell?_setCell_same _ _ _ h0)))))))
  · exact ((World.cell?_setCell_other _ _ _ _ (seg_ne (show 6 ≠ 1 by decide))).trans ((World.cell?_setCell_other _ _ _ _ (seg_ne (show 5 ≠ 1 by decide))).trans ((World.cell?_setCell_other _ _ _ _ (seg_ne (show 4 ≠ 1 by decide))).trans ((World.cell?_setCell_other _ _ _ _ (seg_ne (show 3 ≠ 1 by decide))).trans ((World.cell?_setCell_other _ _ _ _ (seg_ne (show 2 ≠ 1 by decide))).trans (World.cell?_setCell_same _ _ _ ((World.cell?_setCell_other _ _ _ _ (seg_ne (show 0 ≠ 1 by decide))).trans h1)))))))
  · exact ((World.cell?_setCell_other _ _ _ _ (seg_ne (show 6 ≠ 2 by decide))).trans ((World.cell?_setCell_other _ _ _ _ (seg_ne (show 5 ≠ 2 by decide))).trans ((World.cell?_setCell_other _ _ _ _ (seg_ne (show 4 ≠ 2 by decide))).trans ((World.cell?_setCell_other _ _ _ _ (seg_ne (show 3 ≠ 2 by decide))).trans (World.cell?_setCell_same _ _ _ ((World.cell?_setCell_other _ _ _ _ (seg_ne (show 1 ≠ 2 by decide))).trans ((World.cell?_setCell_other _ _ _ _ (seg_ne (show 0 ≠ 2 by decide))).trans h2)))))))
  · exact ((World.cell?_setCell_other _ _ _ _ (seg_ne (show 6 ≠ 3 by decide))).trans ((World.cell?_setCell_other _ _ _ _ (seg_ne (show 5 ≠ 3 by decide))).trans ((World.cell?_setCell_other _ _ _ _ (seg_ne (show 4 ≠ 3 by decide))).trans (World.cell?_setCell_same _ _ _ ((World.cell?_setCell_other _ _ _ _ (seg_ne (show 2 ≠ 3 by decide))).trans ((World.cell?_setCell_other _ _ _ _ (seg_ne (show 1 ≠ 3 by decide))).trans ((World.cell?_setCell_other _ _ _ _ (seg_ne (show 0 ≠ 3 by decide))).trans h3)))))))
  · exact ((World.cell?_setCell_other _ _ _ _ (seg_ne (show 6 ≠ 4 by decide))).trans ((World.cell?_setCell_other _ _ _ _ (seg_ne (show 5 ≠ 4 by decide))).trans (World.cell?_setCell_same _ _ _ ((World.cell?_setCell_other _ _ _ _ (seg_ne (show 3 ≠ 4 by decide))).trans ((World.cell?_setCell_other _ _ _ _ (seg_ne (show 2 ≠ 4 by decide))).trans ((World.cell?_setCell_other _ _ _ _ (seg_ne (show 1 ≠ 4 by decide))).trans ((World.cell?_setCell_other _ _ _ _ (seg_ne (show 0 ≠ 4 by decide))).trans h4)))))))
  · exact ((World.cell?_setCell_other _ _ _ _ (seg_ne (show 6 ≠ 5 by decide))).trans (World.cell?_setCell_same _ _ _ ((World.cell?_setCell_other _ _ _ _ (seg_ne (show 4 ≠ 5 by decide))).trans ((World.cell?_setCell_other _ _ _ _ (seg_ne (show 3 ≠ 5 by decide))).trans ((World.cell?_setCell_other _ _ _ _ (seg_ne (show 2 ≠ 5 by decide))).trans ((World.cell?_setCell_other _ _ _ _ (seg_ne (show 1 ≠ 5 by decide))).trans ((World.cell?_setCell_other _ _ _ _ (seg_ne (show 0 ≠ 5 by decide))).trans h5)))))))
  · exact (World.cell?_setCell_same _ _ _ ((World.cell?_setCell_other _ _ _ _ (seg_ne (show 5 ≠ 6 by decide))).trans ((World.cell?_setCell_other _ _ _ _ (seg_ne (show 4 ≠ 6 by decide))).trans ((World.cell?_setCell_other _ _ _ _ (seg_ne (show 3 ≠ 6 by decide))).trans ((World.cell?_setCell_other _ _ _ _ (seg_ne (show 2 ≠ 6 by decide))).trans ((World.cell?_setCell_other _ _ _ _ (seg_ne (show 1 ≠ 6 by decide))).trans ((World.cell?_setCell_other _ _ _ _ (seg_ne (show 0 ≠ 6 by decide))).trans h6)))))))

/-- A box of seven cells. -/
def Box7 (w : World) (b : Nat) (x0 x1 x2 x3 x4 x5 x6 : Value) : Prop := w.cell? ⟨b, 0, none⟩ = some x0 ∧ w.cell? ⟨b, 1, none⟩ = some x1 ∧ w.cell? ⟨b, 2, none⟩ = some x2 ∧ w.cell? ⟨b, 3, none⟩ = some x3 ∧ w.cell? ⟨b, 4, none⟩ = some x4 ∧ w.cell? ⟨b, 5, none⟩ = some x5 ∧ w.cell? ⟨b, 6, none⟩ = some x6
theorem Box7.below {w w' : World} {B b : Nat} {x0 x1 x2 x3 x4 x5 x6 : Value} (h : Box7 w b x0 x1 x2 x3 x4 x5 x6) (hb : Below B w w') (hB : b < B) : Box7 w' b x0 x1 x2 x3 x4 x5 x6 := by
  obtain ⟨h0, h1, h2, h3, h4, h5, h6⟩ := h
  exact ⟨(hb.cell (p := ⟨b, 0, none⟩) hB).trans h0, (hb.cell (p := ⟨b, 1, none⟩) hB).trans h1, (hb.cell (p := ⟨b, 2, none⟩) hB).trans h2, (hb.cell (p := ⟨b, 3, none⟩) hB).trans h3, (hb.cell (p := ⟨b, 4, none⟩) hB).trans h4, (hb.cell (p := ⟨b, 5, none⟩) hB).trans h5, (hb.cell (p := ⟨b, 6, none⟩) hB).trans h6⟩
theorem box7_new (w : World) (x0 x1 x2 x3 x4 x5 x6 : Value) (t : TypeId) : Box7 (w.alloc (.cells #[x0, x1, x2, x3, x4, x5, x6] t)) w.heap.size x0 x1 x2 x3 x4 x5 x6 :=
  ⟨(cell_new w _ t 0).1, (cell_new w _ t 1).1, (cell_new w _ t 2).1, (cell_new w _ t 3).1, (cell_new w _ t 4).1, (cell_new w _ t 5).1, (cell_new w _ t 6).1⟩

set_option maxRecDepth 100000 in
set_option maxHeartbeats 800000 in
theorem szSeg_any (sa sp da dp sq ak : Int) (d : ByteArray) (left : Int) (w : World) (hd : d.size ≤ maxLen) (h0 : 0 ≤ left) (h1 : left ≤ 4194304) :
    Calls Tryz.prog 15 #[.agg #[.int .i64 sa, .int .i64 sp, .int .i64 da, .int .i64 dp, .int .i64 sq, .int .i64 ak, .string d], .int .i64 left] w fun e w' => e = .returned (.int .i64 (if left < (d.size : Int) then -1 else left - d.size)) ∧ Below w.heap.size w w' := by
  unfold maxLen at hd
  by_cases h : left < (d.size : Int)
  all_goals
    go_enter Tryz.func15, Tryz.ntmps15
    go_wp2
    go_ret
    exact ⟨ret_int (by first | rfl | (rw [if_pos h]; rfl) | (rw [if_neg (by omega)]) | (rw [if_neg (by omega)]; rfl)), (Below.refl _ _).alloc (Nat.le_refl _) _⟩

set_option maxRecDepth 100000 in
set_option maxHeartbeats 1600000 in
theorem toSeg_any (sa sp da dp sq ak : Int) (d : ByteArray) (w : World) :
    Calls Tryz.prog 18 #[.agg #[.int .i64 sa, .int .i64 sp, .int .i64 da, .int .i64 dp, .int .i64 sq, .int .i64 ak, .string d]] w fun e w' => e = .returned (.agg #[.int .i64 sa, .int .i64 sp, .int .i64 da, .int .i64 dp, .int .i64 sq, .int .i64 ak, .string d]) ∧ Below w.heap.size w w' := by
  go_enter Tryz.func18, Tryz.ntmps18
  go_wp2_with fail
  (go_at_call 28; refine (toEnd_any sa sp _).mono ?_; rintro e w1 ⟨rfl, b1⟩; obtain ⟨c1, f1⟩ := bcell b1)
  have s1 : w.heap.size < w1.heap.size := by have := b1.size; simp at this; omega
  have s2 : w.heap.size + 1 < w1.heap.size := by have := b1.size; simp at this; omega
  have s3 : w.heap.size + 1 + 1 < w1.heap.size := by have := b1.size; simp at this; omega
  go_wp2_with fail
  (go_at_call 28; refine (toEnd_any da dp _).mono ?_; rintro e w2 ⟨rfl, b2⟩; obtain ⟨c2, f2⟩ := bcell b2)
  have t1 : w.heap.size < w2.heap.size := by have := b2.size; simp at this; omega
  have t2 : w.heap.size + 1 < w2.heap.size := by have := b2.size; simp at this; omega
  have t3 : w.heap.size + 1 + 1 < w2.heap.size := by have := b2.size; simp at this; omega
  simp at c2 f2
  go_wp2_with fail
  obtain ⟨q0, q1, q2, q3, q4, q5, q6⟩ := set_seven (w := (((((w2.setCell ⟨w.heap.size + 1 + 1, 2, none⟩ (.int .i64 da)).setCell ⟨w.heap.size + 1 + 1, 3, none⟩ (.int .i64 dp)).setCell ⟨w.heap.size + 1 + 1, 4, none⟩ (.int .i64 sq)).setCell ⟨w.heap.size + 1 + 1, 5, none⟩ (.int .i64 ak)).setCell ⟨w.heap.size + 1 + 1, 6, none⟩ (.string d))) (b := w.heap.size + 1) (.int .i64 sa) (.int .i64 sp) (.int .i64 da) (.int .i64 dp) (.int .i64 sq) (.int .i64 ak) (.string d) (x0 := .int .i64 0) (x1 := .int .i64 0) (x2 := .int .i64 0) (x3 := .int .i64 0) (x4 := .int .i64 0) (x5 := .int .i64 0) (x6 := .string ⟨#[]⟩)
    (by simp [c2, s2, c1, go_sem]) (by simp [c2, s2, c1, go_sem]) (by simp [c2, s2, c1, go_sem]) (by simp [c2, s2, c1, go_sem]) (by simp [c2, s2, c1, go_sem]) (by simp [c2, s2, c1, go_sem]) (by simp [c2, s2, c1, go_sem])
  refine bodyPost_ret (v := .agg #[.int .i64 sa, .int .i64 sp, .int .i64 da, .int .i64 dp, .int .i64 sq, .int .i64 ak, .string d]) (by simp [results, Tryz.results18, go_sem, q0, q1, q2, q3, q4, q5, q6]) rfl ⟨rfl, ?_⟩
  have B1 : Below w.heap.size w w1 := ((((Below.refl _ _).alloc (Nat.le_refl _) _).alloc (by simp) _).alloc (by simp; omega) _).trans (b1.mono (by simp; omega))
  have B2 : Below w.heap.size w w2 := ((B1.setCell (by simp; omega) _).setCell (by simp; omega) _).trans (b2.mono (by simp; omega))
  exact ((((((((((((B2.setCell (by simp; omega) _).setCell (by simp; omega) _).setCell (by simp; omega) _).setCell (by simp; omega) _).setCell (by simp; omega) _).setCell (by simp) _).setCell (by simp) _).setCell (by simp) _).setCell (by simp) _).setCell (by simp) _).setCell (by simp) _).setCell (by simp) _)

set_option maxRecDepth 100000 in
set_option maxHeartbeats 1600000 in
theorem eqSeg_same (sa sp da dp sq ak : Int) (d : ByteArray) (w : World) :
    Calls Tryz.prog 21 #[.agg #[.int .i64 sa, .int .i64 sp, .int .i64 da, .int .i64 dp, .int .i64 sq, .int .i64 ak, .string d], .agg #[.int .i64 sa, .int .i64 sp, .int .i64 da, .int .i64 dp, .int .i64 sq, .int .i64 ak, .string d]] w fun e w' => e = .returned (.bool true) ∧ Below w.heap.size w w' := by
  go_enter Tryz.func21, Tryz.ntmps21
  go_wp2_with fail
  (go_at_call 69; refine (eqEnd_same sa sp _).mono ?_; rintro e w1 ⟨rfl, b1⟩; obtain ⟨c1, f1⟩ := bcell b1)
  have s1 : w.heap.size < w1.heap.size := by have := b1.size; simp at this; omega
  have s2 : w.heap.size + 1 < w1.heap.size := by have := b1.size; simp at this; omega
  go_wp2_with fail
  (go_at_call 69; refine (eqEnd_same da dp _).mono ?_; rintro e w2 ⟨rfl, b2⟩; obtain ⟨c2, f2⟩ := bcell b2)
  go_wp2_with fail
  go_ret
  exact ⟨rfl, ((((Below.refl _ _).alloc (Nat.le_refl _) _).alloc (by simp) _).trans (b1.mono (by simp; omega))).trans (b2.mono (by omega))⟩

end Go.Proofs.YtglpijjkihpeeaaGreatDoor
