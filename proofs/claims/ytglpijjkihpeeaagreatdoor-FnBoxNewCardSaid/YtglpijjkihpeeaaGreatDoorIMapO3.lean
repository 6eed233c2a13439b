/- The program's MapOk answers as the document says. Conditions: at most 2^22 ends; all numbers are ints. -/
import Derived.Test.YtglpijjkihpeeaaGreatDoorIPorts
import Derived.Lib.QuietBelow
namespace Go.Proofs.YtglpijjkihpeeaaGreatDoor
open Go.RowKit Go.Sort

set_option maxRecDepth 100000 in
set_option maxHeartbeats 3200000 in
theorem implMapOk_not (v : Value) (es : List (Int × Int)) (w : World) (hn : es.length ≤ 4194304) (ht : TabAt w v es) (h6 : ¬ 6 < es.length) (hin : ¬ es.all (fun e => insB e.1 e.2) = true) :
    Calls Tryz.prog 46 #[.agg #[v]] w fun e w' => e = .returned (.bool (mapB es)) ∧ Below w.heap.size w w' := by
  have HT := Lib.hid ht
  obtain ⟨ad, cap, rfl, _, _⟩ := ht
  have h66 : decide ((es.length : Int) ≤ 6) = true := by simp; omega
  have HA : ∀ b, es.all (fun e => insB e.1 e.2) = b → Hid (∀ w, TabAt w (.slice ad es.length cap) es → Calls Tryz.prog 97 #[.slice ad es.length cap] w fun e w' => e = .returned (.bool b) ∧ Below w.heap.size w w') := fun b hb w h => by rw [← hb]; exact allInside_any _ es w hn h
  obtain ⟨W0, hW0⟩ : ∃ W0, W0 = w.alloc (.cells #[.slice ad es.length cap] 27) := ⟨_, rfl⟩
  have t0 : W0.cell? ⟨w.heap.size, 0, none⟩ = some (.slice ad es.length cap) := by rw [hW0]; exact (cell_new w _ _ 0).1
  have B0 : Hid (Below w.heap.size w W0) := by rw [hW0]; exact (Below.refl _ _).alloc (Nat.le_refl _) _
  have z0 : W0.heap.size = w.heap.size + 1 := by rw [hW0]; simp
  have HT0 := Lib.hid (HT.out.below B0.out)
  have hin' : es.all (fun e => insB e.1 e.2) = false := by simpa using hin
  have HA := HA false hin'
  have HB : Hid (mapB es = false) := by
    show mapB es = false
    rw [mapB_vals, hin']
    simp
  rw [HB.out]
  clear HT hin hin' HB hn
  go_enter Tryz.func46, Tryz.ntmps46
  go_wp2_with fail
  rw [← hW0]
  clear hW0
  have K0 := cell_regrown t0
  have cA : ∀ d os, Calls Tryz.prog 97 #[.slice ad es.length cap] (grow (redrawn W0 d) os) fun e w'' => e = .returned (.bool false) ∧ ∃ q : Regrown, w'' = grow (redrawn W0 q.d) q.os := fun d os => Calls.regrown_of (HA.out _ (HT0.out.below (below_regrown W0 d os)))
  clear t0
  refine wp_region_quiet_below (by kernel_rfl) (by kernel_rfl) ?_
  repeat (first | go_big_quiet_skip | quiet_step (exact cA _ _))
  refine wpQuiet_nil ?_
  intro _ hw'
  obtain ⟨⟨dq, osq⟩, hw''⟩ := hw'
  subst hw''
  go_wp2_with fail
  go_ret
  exact ⟨rfl, B0.out.trans ((below_regrown W0 dq osq).mono (by omega))⟩

end Go.Proofs.YtglpijjkihpeeaaGreatDoor
