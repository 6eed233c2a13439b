/- How the law compares two ends: of one end it says that it is the same. No condition. -/
import Derived.Test.YtilfpefccklebaaDoorBase
namespace Go.Proofs.YtilfpefccklebaaDoor
open Go.RowKit

set_option maxRecDepth 100000 in
set_option maxHeartbeats 800000 in
theorem eqEnd_same (a p : Int) (w : World) :
    Calls Tryd.prog 65 #[.agg #[.int .i64 a, .int .i64 p], .agg #[.int .i64 a, .int .i64 p]] w fun e w' => e = .returned (.bool true) ∧ Below w.heap.size w w' := by
  go_enter Tryd.func65, Tryd.ntmps65
  go_wp2
  go_ret
  exact ⟨rfl, ((Below.refl _ _).alloc (Nat.le_refl _) _).alloc (by simp) _⟩

end Go.Proofs.YtilfpefccklebaaDoor
