/- EndOutside and EndOk of the program and of the specification, at every end; the world below the call stays as it was. No condition. -/
import Derived.Test.YtglpijjkihpeeaaGreatDoorInside
namespace Go.Proofs.YtglpijjkihpeeaaGreatDoor
open Go.RowKit

set_option maxRecDepth 100000 in
set_option maxHeartbeats 400000 in
theorem isBox_any (a p : Int) (w : World) :
    Calls Tryz.prog 64 #[.agg #[.int .i64 a, .int .i64 p]] w fun e w' => e = .returned (.bool (boxB a p)) ∧ Below w.heap.size w w' := by
  by_cases h1 : a = 50
  · subst h1
    go_enter Tryz.func64, Tryz.ntmps64
    go_wp2_with (go_at_call 123; refine (isPort_any _ _).mono ?_; rintro e w' ⟨rfl, rfl⟩)
    go_ret
    exact ⟨by simp [boxB], (Below.refl _ _).alloc (Nat.le_refl _) _⟩
  · have h2 : (a == 50) = false := by simpa using h1
    go_enter Tryz.func64, Tryz.ntmps64
    go_wp2_with (go_at_call 123; refine (isPort_any _ _).mono ?_; rintro e w' ⟨rfl, rfl⟩)
    go_ret
    exact ⟨by simp [boxB, h1], (Below.refl _ _).alloc (Nat.le_refl _) _⟩

set_option maxRecDepth 100000 in
set_option maxHeartbeats 400000 in
theorem specOutside_any (a p : Int) (w : World) :
    Calls Tryz.prog 126 #[.agg #[.int .i64 a, .int .i64 p]] w fun e w' => e = .returned (.bool (outB a p)) ∧ Below w.heap.size w w' := by
  by_cases h1 : inB a 100 109 = true <;>
  · go_enter Tryz.func126, Tryz.ntmps126
    go_wp2_with (go_at_call 44; refine (specIn_any _ _ _ _).mono ?_; rintro e w' ⟨rfl, rfl⟩)
    go_ret
    exact ⟨by simp [outB, h1], (Below.refl _ _).alloc (Nat.le_refl _) _⟩

set_option maxRecDepth 100000 in
set_option maxHeartbeats 400000 in
theorem implOutside_any (a p : Int) (w : World) :
    Calls Tryz.prog 139 #[.agg #[.int .i64 a, .int .i64 p]] w fun e w' => e = .returned (.bool (outB a p)) ∧ Below w.heap.size w w' := by
  by_cases h1 : inB a 100 109 = true <;>
  · go_enter Tryz.func139, Tryz.ntmps139
    go_wp2_with (first
      | (go_at_call 122; refine (within_any _ _ _ _).mono ?_; rintro e w' ⟨rfl, rfl⟩)
      | (go_at_call 123; refine (isPort_any _ _).mono ?_; rintro e w' ⟨rfl, rfl⟩))
    go_ret
    exact ⟨by simp [outB, h1], (Below.refl _ _).alloc (Nat.le_refl _) _⟩

set_option maxRecDepth 100000 in
set_option maxHeartbeats 1000000 in
theorem implOk_any (a p : Int) (w : World) :
    Calls Tryz.prog 119 #[.agg #[.int .i64 a, .int .i64 p]] w fun e w' => e = .returned (.bool (endB a p)) ∧ Below w.heap.size w w' := by
  by_cases h1 : insB a p = true <;> by_cases h2 : outB a p = true <;>
  · go_enter Tryz.func119, Tryz.ntmps119
    go_wp2_with (first
      | (go_at_call 63; refine (implInside_any _ _ _).mono ?_; rintro e w1 ⟨rfl, b1⟩; obtain ⟨c1, f1⟩ := bcell b1; have s1 : w.heap.size < w1.heap.size := by (have := b1.size; simp at this; omega))
      | (go_at_call 139; refine (implOutside_any _ _ _).mono ?_; rintro e w2 ⟨rfl, b2⟩; obtain ⟨c2, f2⟩ := bcell b2)
      | (go_at_call 64; refine (isBox_any _ _ _).mono ?_; rintro e w3 ⟨rfl, b3⟩))
    go_ret
    first
      | exact ⟨by simp [endB, h1, h2], (below_box ‹Below (w.alloc _).heap.size _ _›).trans ((‹Below w1.heap.size w1 _›).trans ((‹Below w2.heap.size w2 _›).mono (by have := (‹Below w1.heap.size w1 w2›).size; omega)) |>.mono (by omega))⟩
      | exact ⟨by simp [endB, h1, h2], (below_box ‹Below (w.alloc _).heap.size _ _›).trans ((‹Below w1.heap.size w1 _›).mono (by omega))⟩
      | exact ⟨by simp [endB, h1, h2], below_box ‹_›⟩

set_option maxRecDepth 100000 in
set_option maxHeartbeats 1000000 in
theorem specOk_any (a p : Int) (w : World) :
    Calls Tryz.prog 110 #[.agg #[.int .i64 a, .int .i64 p]] w fun e w' => e = .returned (.bool (endB a p)) ∧ Below w.heap.size w w' := by
  by_cases h3 : a = 50
  · subst h3
    have h1 : ¬ insB 50 p = true := by simp [insB, inB]
    have h2 : ¬ outB 50 p = true := by simp [outB, inB]
    go_enter Tryz.func110, Tryz.ntmps110
    go_wp2_with (first
      | (go_at_call 53; refine (specInside_any _ _ _).mono ?_; rintro e w1 ⟨rfl, b1⟩; obtain ⟨c1, f1⟩ := bcell b1; have s1 : w.heap.size < w1.heap.size := by (have := b1.size; simp at this; omega))
      | (go_at_call 126; refine (specOutside_any _ _ _).mono ?_; rintro e w2 ⟨rfl, b2⟩; obtain ⟨c2, f2⟩ := bcell b2)
      | (go_at_call 44; refine (specIn_any _ _ _ _).mono ?_; rintro e w3 ⟨rfl, rfl⟩))
    go_ret
    exact ⟨by simp [endB, boxB, h1, h2], (below_box ‹Below (w.alloc _).heap.size _ _›).trans ((‹Below w1.heap.size w1 _›).mono (by omega))⟩
  · have h4 : (a == 50) = false := by simpa using h3
    by_cases h1 : insB a p = true <;> by_cases h2 : outB a p = true <;>
    · go_enter Tryz.func110, Tryz.ntmps110
      go_wp2_with (first
        | (go_at_call 53; refine (specInside_any _ _ _).mono ?_; rintro e w1 ⟨rfl, b1⟩; obtain ⟨c1, f1⟩ := bcell b1; have s1 : w.heap.size < w1.heap.size := by (have := b1.size; simp at this; omega))
        | (go_at_call 126; refine (specOutside_any _ _ _).mono ?_; rintro e w2 ⟨rfl, b2⟩; obtain ⟨c2, f2⟩ := bcell b2)
        | (go_at_call 44; refine (specIn_any _ _ _ _).mono ?_; rintro e w3 ⟨rfl, rfl⟩))
      go_ret
      first
        | exact ⟨by simp [endB, boxB, h1, h2, h3], (below_box ‹Below (w.alloc _).heap.size _ _›).trans ((‹Below w1.heap.size w1 _›).mono (by omega))⟩
        | exact ⟨by simp [endB, boxB, h1, h2, h3], below_box ‹_›⟩

end Go.Proofs.YtglpijjkihpeeaaGreatDoor
