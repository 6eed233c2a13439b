/- EndInside of the program and of the specification, at every end; the world below the call stays as it was. No condition. -/
import Derived.Test.YthhojghckfkdhaaBase
namespace Go.Proofs.Ythhojghckfkdhaa
open Go.RowKit

set_option maxRecDepth 100000 in
set_option maxHeartbeats 400000 in
theorem specIn_any (n lo hi : Int) (w : World) :
    Calls Try.prog 57 #[.int .i64 n, .int .i64 lo, .int .i64 hi] w fun e w' => e = .returned (.bool (inB n lo hi)) ∧ w = w' := by
  by_cases h1 : lo ≤ n <;> by_cases h2 : n ≤ hi <;>
  · go_enter Try.func57, Try.ntmps57
    go_wp2
    go_ret
    exact ⟨by simp [inB, h1, h2], rfl⟩

set_option maxRecDepth 100000 in
set_option maxHeartbeats 400000 in
theorem specInside_any (a p : Int) (w : World) :
    Calls Try.prog 48 #[.agg #[.int .i64 a, .int .i64 p]] w fun e w' => e = .returned (.bool (insB a p)) ∧ Below w.heap.size w w' := by
  by_cases h1 : inB a 1 9 = true <;>
  · go_enter Try.func48, Try.ntmps48
    go_wp2_with (go_at_call 57; refine (specIn_any _ _ _ _).mono ?_; rintro e w' ⟨rfl, rfl⟩)
    go_ret
    exact ⟨by simp [insB, h1], (Below.refl _ _).alloc (Nat.le_refl _) _⟩

end Go.Proofs.Ythhojghckfkdhaa
