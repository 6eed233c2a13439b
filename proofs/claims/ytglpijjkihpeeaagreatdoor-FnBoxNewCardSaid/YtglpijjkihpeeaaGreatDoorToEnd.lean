/- An end as the law has it becomes an end of the program. No condition. -/
import Derived.Test.YtglpijjkihpeeaaGreatDoorBase
namespace Go.Proofs.YtglpijjkihpeeaaGreatDoor
open Go.RowKit

set_option maxRecDepth 100000 in
set_option maxHeartbeats 400000 in
theorem toEnd_any (a p : Int) (w : World) :
    Calls Tryz.prog 28 #[.agg #[.int .i64 a, .int .i64 p]] w fun e w' => e = .returned (.agg #[.int .i64 a, .int .i64 p]) ∧ Below w.heap.size w w' := by
  go_enter Tryz.func28, Tryz.ntmps28
  go_wp2
  refine bodyPost_ret (v := .agg #[.int .i64 a, .int .i64 p]) (by simp [results, Tryz.results28, go_sem]) rfl ⟨rfl, ?_⟩
  exact ((((Below.refl _ _).alloc (Nat.le_refl _) _).alloc (by simp) _).alloc (by simp; omega) _)

end Go.Proofs.YtglpijjkihpeeaaGreatDoor
