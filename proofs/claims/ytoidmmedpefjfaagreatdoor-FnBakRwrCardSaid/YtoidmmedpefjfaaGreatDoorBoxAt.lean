/- The box's end with a port, and whether an end's streams name ends, of the program. No condition. -/
import Derived.Test.YtoidmmedpefjfaaGreatDoorEnd
namespace Go.Proofs.YtoidmmedpefjfaaGreatDoor
open Go.RowKit

set_option maxRecDepth 100000 in
set_option maxHeartbeats 400000 in
theorem boxAt_any (p : Int) (w : World) :
    Calls Tryz.prog 95 #[.int .i64 p] w fun e w' => e = .returned (.agg #[.int .i64 50, .int .i64 p]) ∧ Below w.heap.size w w' := by
  go_enter Tryz.func95, Tryz.ntmps95
  go_wp2_with fail
  refine bodyPost_ret (v := .agg #[.int .i64 50, .int .i64 p]) (by simp [results, Tryz.results95, go_sem]) rfl ⟨rfl, ?_⟩
  first
    | exact (((Below.refl _ _).alloc (Nat.le_refl _) _).setCell (by simp) _).setCell (by simp) _
    | exact (Below.refl _ _).alloc (Nat.le_refl _) _

end Go.Proofs.YtoidmmedpefjfaaGreatDoor
