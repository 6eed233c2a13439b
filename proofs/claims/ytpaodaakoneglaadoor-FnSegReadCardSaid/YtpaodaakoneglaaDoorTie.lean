/-
  DERIVED. GIVEN WITH THE SEED: THE PROGRAM's TIES (one call each: nine closed facts by the kernel) AND EACH ROW's TIE, after the 31st guide's Derived/Test/Toyas{Tie, Card}.lean. No idea stands in it: it is a product of the set-up. Laid BY PROGRAM, IN A SANDBOX (cutbox-door.mjs). By AI agents, Wed Nov 11 2026. No macro, syntax, notation, axiom, sorry.
-/
import Derived.Test.YtpaodaakoneglaaDoorRows
import Derived.LaidByTextLater
import Derived.SevenTiedAt
import Derived.LaidSub
import Derived.LaidOnce
namespace Go.Proofs.YtpaodaakoneglaaDoor
open Go
set_option maxRecDepth 100000
theorem seatTie1 : Tryd.prog.laidByTextLater [("loop.example/hatchway/impl.errTooFew", Rows.laid_loop_example_hatchway_impl_errTooFew), ("loop.example/hatchway/impl.errTooMany", Rows.laid_loop_example_hatchway_impl_errTooMany), ("loop.example/hatchway/impl.errSum", Rows.laid_loop_example_hatchway_impl_errSum), ("loop.example/hatchway/impl.errNoSeg", Rows.laid_loop_example_hatchway_impl_errNoSeg)] [.sentinel, .sentinel, .sentinel, .sentinel] true :=
  Program.laidByTextLater_by_one 85 8 2 (by kernel_rfl) (by kernel_rfl) (by kernel_rfl) (by kernel_rfl) (by kernel_rfl) (by kernel_rfl) (fun _ _ => by kernel_rfl)
theorem noOwnUnsafe : Tryd.pinned.checked.prog.headLifts.contains "ownunsafe" = false := by kernel_rfl
theorem tie : Tryd.prog.laidByTextLater [("loop.example/hatchway/impl.errTooFew", Rows.laid_loop_example_hatchway_impl_errTooFew), ("loop.example/hatchway/impl.errTooMany", Rows.laid_loop_example_hatchway_impl_errTooMany), ("loop.example/hatchway/impl.errSum", Rows.laid_loop_example_hatchway_impl_errSum), ("loop.example/hatchway/impl.errNoSeg", Rows.laid_loop_example_hatchway_impl_errNoSeg)] [.sentinel, .sentinel, .sentinel, .sentinel] true :=
  Program.laidByTextLater.sub seatTie1 ["loop.example/hatchway/impl.errTooFew", "loop.example/hatchway/impl.errTooMany", "loop.example/hatchway/impl.errSum", "loop.example/hatchway/impl.errNoSeg"] (by kernel_rfl) (by kernel_rfl)
theorem fnSegBytes_row_tie : Rows.fnSegBytesRow.laidByTextAt .later Tryd.pinned [.sentinel, .sentinel, .sentinel, .sentinel] true :=
  OpenClaim.laidByTextAt_later rfl rfl tie noOwnUnsafe
theorem fnSegRead_row_tie : Rows.fnSegReadRow.laidByTextAt .later Tryd.pinned [.sentinel, .sentinel, .sentinel, .sentinel] true :=
  OpenClaim.laidByTextAt_later rfl rfl tie noOwnUnsafe
theorem fnSegBytesUpto_row_tie : Rows.fnSegBytesUptoRow.laidByTextAt .later Tryd.pinned [.sentinel, .sentinel, .sentinel, .sentinel] true :=
  OpenClaim.laidByTextAt_later rfl rfl tie noOwnUnsafe
theorem fnSegReadUpto_row_tie : Rows.fnSegReadUptoRow.laidByTextAt .later Tryd.pinned [.sentinel, .sentinel, .sentinel, .sentinel] true :=
  OpenClaim.laidByTextAt_later rfl rfl tie noOwnUnsafe
end Go.Proofs.YtpaodaakoneglaaDoor
