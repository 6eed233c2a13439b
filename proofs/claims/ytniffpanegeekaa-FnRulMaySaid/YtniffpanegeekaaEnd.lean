/- EndOutside and EndOk of the program and of the specification, at every end; the world below the call stays as it was. No condition. -/
import Derived.Test.YtniffpanegeekaaInside
namespace Go.Proofs.Ytniffpanegeekaa
open Go.RowKit

set_option maxRecDepth 100000 in
set_option maxHeartbeats 400000 in
theorem specOutside_any (a p : Int) (w : World) :
    Calls Try.prog 12 #[.agg #[.int .i64 a, .int .i64 p]] w fun e w' => e = .returned (.bool (outB a p)) ∧ Below w.heap.size w w' := by
  by_cases h1 : inB a 100 109 = true <;>
  · go_enter Try.func12, Try.ntmps12
    go_wp2_with (go_at_call 36; refine (specIn_any _ _ _ _).mono ?_; rintro e w' ⟨rfl, rfl⟩)
    go_ret
    exact ⟨by simp [outB, h1], (Below.refl _ _).alloc (Nat.le_refl _) _⟩

set_option maxRecDepth 100000 in
set_option maxHeartbeats 400000 in
theorem implOutside_any (a p : Int) (w : World) :
    Calls Try.prog 32 #[.agg #[.int .i64 a, .int .i64 p]] w fun e w' => e = .returned (.bool (outB a p)) ∧ Below w.heap.size w w' := by
  by_cases h1 : inB a 100 109 = true <;>
  · go_enter Try.func32, Try.ntmps32
    go_wp2_with (first
      | (go_at_call 42; refine (within_any _ _ _ _).mono ?_; rintro e w' ⟨rfl, rfl⟩)
      | (go_at_call 43; refine (isPort_any _ _).mono ?_; rintro e w' ⟨rfl, rfl⟩))
    go_ret
    exact ⟨by simp [outB, h1], (Below.refl _ _).alloc (Nat.le_refl _) _⟩

end Go.Proofs.Ytniffpanegeekaa
