/- The program's MapOk answers as the document says. Conditions: at most 2^22 ends; all numbers are ints. -/
import Derived.Test.YtglpijjkihpeeaaGreatDoorIPorts
import Derived.Deep.RegionHeld3
namespace Go.Proofs.YtglpijjkihpeeaaGreatDoor
open Go.RowKit Go.Sort

set_option maxRecDepth 100000 in
set_option maxHeartbeats 3200000 in
theorem implMapOk_all (v : Value) (es : List (Int × Int)) (w : World) (hn : es.length ≤ 4194304) (hwf : wfE es) (ht : TabAt w v es) (h6 : ¬ 6 < es.length) (hin : es.all (fun e => insB e.1 e.2) = true) :
    Calls Tryz.prog 46 #[.agg #[v]] w fun e w' => e = .returned (.bool (mapB es)) ∧ Below w.heap.size w w' := by
  have HT := Lib.hid ht
  obtain ⟨ad, cap, rfl, _, _⟩ := ht
  have h66 : decide ((es.length : Int) ≤ 6) = true := by simp; omega
  have HA : ∀ b, es.all (fun e => insB e.1 e.2) = b → Hid (∀ w, TabAt w (.slice ad es.length cap) es → Calls Tryz.prog 97 #[.slice ad es.length cap] w fun e w' => e = .returned (.bool b) ∧ Below w.heap.size w w') := fun b hb w h => by rw [← hb]; exact allInside_any _ es w hn h
  obtain ⟨W0, hW0⟩ : ∃ W0, W0 = w.alloc (.cells #[.slice ad es.length cap] 27) := ⟨_, rfl⟩
  have t0 : W0.cell? ⟨w.heap.size, 0, none⟩ = some (.slice ad es.length cap) := by rw [hW0]; exact (cell_new w _ _ 0).1
  have B0 : Hid (Below w.heap.size w W0) := by rw [hW0]; exact (Below.refl _ _).alloc (Nat.le_refl _) _
  have z0 : W0.heap.size = w.heap.size + 1 := by rw [hW0]; simp
  have HT0 := Lib.hid (HT.out.below B0.out)
  have HA := HA true hin
  obtain ⟨n, hnn⟩ : ∃ n, n = (valsL es).length := ⟨_, rfl⟩
  have HB : Hid (mapB es = ((n : Int) == (es.length : Int))) := by
    show mapB es = _
    rw [mapB_vals, hin, decide_eq_true (by omega), ← hnn, Bool.eq_iff_iff]
    simp
    omega
  have HP : Hid (∀ w, TabAt w (.slice ad es.length cap) es → Calls Tryz.prog 98 #[.agg #[.slice ad es.length cap]] w fun e w' => ∃ g1 g2, e = .returned (.agg #[.map (some g1), .map (some g2)]) ∧ w.heap.size ≤ g1 ∧ w.heap.size ≤ g2 ∧ Both w' g1 g2 es ∧ Below w.heap.size w w') := fun w h => portsOf_any _ es w hn hwf h
  have HS : Hid (∀ g1 g2 w, Both w g1 g2 es → Calls Tryz.prog 99 #[.agg #[.map (some g1), .map (some g2)]] w fun e w' => e = .returned (.int .i64 (n : Int)) ∧ Below w.heap.size w w') := fun g1 g2 w h => by rw [hnn]; exact size_any g1 g2 es w h
  rw [HB.out]
  clear hwf HT hin hnn HB hn
  go_enter Tryz.func46, Tryz.ntmps46
  go_wp2_with fail
  rw [← hW0]
  clear hW0
  have mk : Hid (∀ w', Below W0.heap.size W0 w' → w'.cell? ⟨w.heap.size, 0, none⟩ = some (.slice ad es.length cap) ∧ Below W0.heap.size W0 w') := fun w' h => ⟨by rw [h.cell (by simp; omega)]; exact t0, h⟩
  clear t0
  go_region_held3 (fun w' => w'.cell? ⟨w.heap.size, 0, none⟩ = some (.slice ad es.length cap) ∧ Below W0.heap.size W0 w') (first | exact mk.out _ (Below.refl _ _).drew | exact mk.out _ cc)
    (first
      | (go_at_call 97; refine (HA.out _ (HT0.out.below (Below.refl _ _).drew)).mono ?_; rintro e wN ⟨rfl, bN⟩; have cc : Below W0.heap.size W0 wN := ((Below.refl _ _).drew).trans bN)
      | (go_at_call 98; refine (HP.out _ (HT0.out.below cc)).mono ?_; rintro e wP ⟨g1, g2, rfl, _, _, hb, bN⟩; have HBo := Lib.hid hb; have cc : Below W0.heap.size W0 wP := cc.trans (bN.mono cc.size); clear hb)
      | (go_at_call 99; refine (HS.out _ _ _ HBo.out).mono ?_; rintro e wQ ⟨rfl, bN⟩; have cc : Below W0.heap.size W0 wQ := cc.trans (bN.mono cc.size)))
  all_goals
    go_wp2_with fail
    go_ret
    exact ⟨rfl, B0.out.trans (cc.mono (by omega))⟩

end Go.Proofs.YtglpijjkihpeeaaGreatDoor
