/- The program's MapEnd and MapPort answer as the document says. Conditions: at most 2^22 ends; all numbers are ints. -/
import Derived.Test.YtbhpogddnpaacaaIPorts
import Derived.Deep.RegionWith
namespace Go.Proofs.Ytbhpogddnpaacaa
open Go.RowKit Go.Sort

theorem endV_form' (x : Option (Int × Int)) : ∃ (a p : Int) (b : Bool), endV x = .tuple #[.agg #[.int .i64 a, .int .i64 p], .bool b] := by
  rcases x with _ | ⟨a, p⟩
  · exact ⟨0, 0, false, rfl⟩
  · exact ⟨a, p, true, rfl⟩

set_option maxRecDepth 100000 in
set_option maxHeartbeats 1600000 in
theorem implMapPort_any (v : Value) (es : List (Int × Int)) (a p : Int) (w : World) (hn : es.length ≤ 4194304) (hwf : wfE es) (wa : (Lit.int .i64 a).wf = true) (wp : (Lit.int .i64 p).wf = true) (ht : TabAt w v es) :
    Calls Try.prog 13 #[.agg #[v], .agg #[.int .i64 a, .int .i64 p]] w fun e w' => e = .returned (.int .i64 (portI es (a, p))) ∧ Below w.heap.size w w' := by
  have HT := Lib.hid ht
  obtain ⟨ad, cap, rfl, _, _⟩ := ht
  have HP : Hid (∀ w, TabAt w (.slice ad es.length cap) es → Calls Try.prog 25 #[.agg #[.slice ad es.length cap]] w fun e w' => ∃ g1 g2, e = .returned (.agg #[.map (some g1), .map (some g2)]) ∧ w.heap.size ≤ g1 ∧ w.heap.size ≤ g2 ∧ Both w' g1 g2 es ∧ Below w.heap.size w w') := fun w h => portsOf_any _ es w hn hwf h
  obtain ⟨q, hq⟩ : ∃ q, q = portI es (a, p) := ⟨_, rfl⟩
  obtain ⟨b, hbb⟩ : ∃ b, b = decide ((a, p) ∈ es) := ⟨_, rfl⟩
  have HV : Hid (∀ g1 g2 w, Both w g1 g2 es → Calls Try.prog 29 #[.agg #[.map (some g1), .map (some g2)], .agg #[.int .i64 a, .int .i64 p]] w fun e w' => e = .returned (.tuple #[.int .i64 q, .bool b]) ∧ Below w.heap.size w w') := fun g1 g2 w h => by rw [hq, hbb]; exact value_any g1 g2 es a p w h wa wp
  rw [← hq]
  clear hwf wa wp hq hn hbb
  go_enter Try.func13, Try.ntmps13
  go_wp2_with fail
  obtain ⟨W0, hW0⟩ : ∃ W0, W0 = (w.alloc (.cells #[.slice ad es.length cap] 34)).alloc (.cells #[.int .i64 a, .int .i64 p] 39) := ⟨_, rfl⟩
  have t0 : W0.cell? ⟨w.heap.size, 0, none⟩ = some (.slice ad es.length cap) := by rw [hW0, cell_alloc_lt (by simp)]; exact (cell_new w _ _ 0).1
  have e0 : W0.cell? ⟨w.heap.size + 1, 0, none⟩ = some (.int .i64 a) := by rw [hW0]; simp
  have e1 : W0.cell? ⟨w.heap.size + 1, 1, none⟩ = some (.int .i64 p) := by rw [hW0]; simp
  have B0 : Hid (Below w.heap.size w W0) := by rw [hW0]; exact ((Below.refl _ _).alloc (Nat.le_refl _) _).alloc (by simp) _
  have z0 : W0.heap.size = w.heap.size + 2 := by rw [hW0]; simp
  rw [← hW0]
  clear hW0
  have HT0 := Lib.hid (HT.out.below B0.out)
  go_region_with (first
    | (go_at_call 25; refine (HP.out _ (HT0.out.below ((Below.refl _ _).drew))).mono ?_; rintro e w1 ⟨g1, g2, rfl, _, _, hb, b1⟩; have HB := Lib.hid hb; have b1 : Below W0.heap.size W0 w1 := ((Below.refl _ _).drew).trans b1; have e0 : w1.cell? ⟨w.heap.size + 1, 0, none⟩ = some (.int .i64 a) := (by rw [b1.cell (by simp; omega)]; exact e0); have e1 : w1.cell? ⟨w.heap.size + 1, 1, none⟩ = some (.int .i64 p) := (by rw [b1.cell (by simp; omega)]; exact e1); clear hb)
    | (go_at_call 29; refine (HV.out _ _ _ HB.out).mono ?_; rintro e w2 ⟨rfl, b2⟩; have BW : Hid (Below w.heap.size w w2) := B0.out.trans ((b1.trans (b2.mono b1.size)).mono (by omega))))
  all_goals
    go_wp2_with fail
    go_ret
    exact ⟨rfl, BW.out⟩

end Go.Proofs.Ytbhpogddnpaacaa
