/- The program's MapOk answers as the document says. Conditions: at most 2^22 ends; all numbers are ints. -/
import Derived.Test.YtglpijjkihpeeaaGreatDoorIPorts
import Derived.Deep.RegionWith
namespace Go.Proofs.YtglpijjkihpeeaaGreatDoor
open Go.RowKit Go.Sort

set_option maxRecDepth 100000 in
set_option maxHeartbeats 3200000 in
theorem implMapOk_big (v : Value) (es : List (Int × Int)) (w : World)  (ht : TabAt w v es) (h6 : 6 < es.length) :
    Calls Tryz.prog 46 #[.agg #[v]] w fun e w' => e = .returned (.bool (mapB es)) ∧ Below w.heap.size w w' := by
  have HT := Lib.hid ht
  obtain ⟨ad, cap, rfl, _, _⟩ := ht
  have HB : Hid (mapB es = false) := by show mapB es = false; rw [mapB_vals, decide_eq_false (by omega)]; rfl
  have h66 : decide ((es.length : Int) ≤ 6) = false := by simp; omega
  rw [HB.out]
  clear HB HT
  go_enter Tryz.func46, Tryz.ntmps46
  go_wp2_with fail
  go_quiet (fail)
  go_wp2_with fail
  go_ret
  exact ⟨rfl, ((Below.refl _ _).alloc (Nat.le_refl _) _).trans ⟨rfl, rfl, rfl, Nat.le_refl _, fun _ _ => rfl⟩⟩

end Go.Proofs.YtglpijjkihpeeaaGreatDoor
