/- The port that an end has, or gets, in the two maps of a table. Conditions: the table is ok; the end is inside. -/
import Derived.Test.YtoidmmedpefjfaaGreatDoorITable
import Derived.Test.YtoidmmedpefjfaaGreatDoorPutE
namespace Go.Proofs.YtoidmmedpefjfaaGreatDoor
open Go.RowKit Go.Sort

set_option maxRecDepth 100000 in
set_option maxHeartbeats 1600000 in
theorem givePort_any (g1 g2 : Nat) (es : List (Int × Int)) (a p : Int) (w : World) (hb : Both w g1 g2 es) (hm : mapB es = true) (hi : insB a p = true) :
    Calls Tryz.prog 94 #[.agg #[.map (some g1), .map (some g2)], .agg #[.int .i64 a, .int .i64 p]] w fun e w' => e = .returned (.int .i64 (putE es (a, p)).2) ∧ Both w' g1 g2 (putE es (a, p)).1 ∧ Two g1 g2 w w' := by
  have h6 := mapB_le hm
  obtain ⟨wa, wp⟩ := ins_wf hi
  have hv := valsL_ok hm
  have HB : Hid (∀ w', Below w.heap.size w w' → Both w' g1 g2 es) := fun w' h => hb.later h
  have HS : Hid (∀ w, Both w g1 g2 es → Calls Tryz.prog 62 #[.agg #[.map (some g1), .map (some g2)]] w fun e w' => e = .returned (.int .i64 (es.length : Int)) ∧ Below w.heap.size w w') := fun w h => by rw [← hv]; exact size_any g1 g2 es w h
  have HL := Lib.hid hb.lt
  by_cases hno : (a, p) ∈ es
  · rw [putE_has hno]
    obtain ⟨q, hq⟩ : ∃ q, q = portI es (a, p) := ⟨_, rfl⟩
    have HV : Hid (∀ w, Both w g1 g2 es → Calls Tryz.prog 64 #[.agg #[.map (some g1), .map (some g2)], .agg #[.int .i64 a, .int .i64 p]] w fun e w' => e = .returned (.tuple #[.int .i64 q, .bool true]) ∧ Below w.heap.size w w') := fun w h => by
      have := value_any g1 g2 es a p w h wa wp
      unfold valV at this
      rwa [decide_eq_true hno, ← hq] at this
    simp only [← hq]
    clear hb hm hi hno hv hq wa wp HS
    go_enter Tryz.func94, Tryz.ntmps94
    go_wp2_with (go_at_call 64; refine (HV.out _ (HB.out _ (((Below.refl _ _).alloc (Nat.le_refl _) _).alloc (by simp) _))).mono ?_; rintro e w1 ⟨rfl, b1⟩; obtain ⟨cA, cB, b01, z1⟩ := cell_two b1; clear cA cB)
    go_ret
    exact ⟨rfl, HB.out _ b01, Two.of_below b01⟩
  · have HV : Hid (∀ w, Both w g1 g2 es → Calls Tryz.prog 64 #[.agg #[.map (some g1), .map (some g2)], .agg #[.int .i64 a, .int .i64 p]] w fun e w' => e = .returned (.tuple #[.int .i64 0, .bool false]) ∧ Below w.heap.size w w') := fun w h => by
      have := value_any g1 g2 es a p w h wa wp
      unfold valV at this
      rwa [decide_eq_false hno, portI_not hno] at this
    by_cases h66 : es.length = 6
    · rw [putE_full hno h66]
      have h67 : (6 : Int) ≤ (es.length : Int) := by omega
      clear hb hm hi hno hv wa wp h66 h6
      go_enter Tryz.func94, Tryz.ntmps94
      go_wp2_with (first
        | (go_at_call 64; refine (HV.out _ (HB.out _ (((Below.refl _ _).alloc (Nat.le_refl _) _).alloc (by simp) _))).mono ?_; rintro e w1 ⟨rfl, b1⟩; obtain ⟨cA, cB, b01, z1⟩ := cell_two b1; have t0 := (cA 0).1; have t1 := (cA 1).1; simp at t0 t1; clear cA cB b1)
        | (go_at_call 62; refine (HS.out _ (HB.out _ b01)).mono ?_; rintro e w2 ⟨rfl, b2⟩))
      go_ret
      have b02 : Below w.heap.size w w2 := b01.trans (b2.mono (by omega))
      exact ⟨rfl, HB.out _ b02, Two.of_below b02⟩
    · rw [putE_new hno h66]
      have h67 : (es.length : Int) < 6 := by omega
      have HJ : Hid (∀ w, Both w g1 g2 es → Calls Tryz.prog 93 #[.agg #[.map (some g1), .map (some g2)], .agg #[.int .i64 a, .int .i64 p], .int .i64 (500 + (es.length : Int))] w fun e w' => e = .returned (.tuple #[]) ∧ Both w' g1 g2 (es ++ [(a, p)]) ∧ Two g1 g2 w w') := fun w h => join_any g1 g2 es a p w h wa wp (by omega)
      clear hb hm hi hno hv wa wp h66 h6
      go_enter Tryz.func94, Tryz.ntmps94
      go_wp2_with fail
      (go_at_call 64; refine (HV.out _ (HB.out _ (((Below.refl _ _).alloc (Nat.le_refl _) _).alloc (by simp) _))).mono ?_; rintro e w1 ⟨rfl, b1⟩; obtain ⟨cA, cB, b01, z1⟩ := cell_two b1; have t0 := (cA 0).1; have t1 := (cA 1).1; have e0 := (cB 0).1; have e1 := (cB 1).1; simp at t0 t1 e0 e1; clear cA cB b1)
      go_wp2_with fail
      (go_at_call 62; refine (HS.out _ (HB.out _ b01)).mono ?_; rintro e w2 ⟨rfl, b2⟩; have b02 : Below w.heap.size w w2 := b01.trans (b2.mono (by omega)); have t20 : w2.cell? ⟨w.heap.size, 0, none⟩ = some (.map (some g1)) := (by rw [b2.cell (by simp; omega)]; exact t0); have t21 : w2.cell? ⟨w.heap.size, 1, none⟩ = some (.map (some g2)) := (by rw [b2.cell (by simp; omega)]; exact t1); have e20 : w2.cell? ⟨w.heap.size + 1, 0, none⟩ = some (.int .i64 a) := (by rw [b2.cell (by simp; omega)]; exact e0); have e21 : w2.cell? ⟨w.heap.size + 1, 1, none⟩ = some (.int .i64 p) := (by rw [b2.cell (by simp; omega)]; exact e1); have z2 := b2.size)
      go_wp2_with fail
      (go_at_call 62; refine (HS.out _ (HB.out _ b02)).mono ?_; rintro e w3 ⟨rfl, b3⟩; have b03 : Below w.heap.size w w3 := b02.trans (b3.mono (by omega)); have t30 : w3.cell? ⟨w.heap.size, 0, none⟩ = some (.map (some g1)) := (by rw [b3.cell (by simp; omega)]; exact t20); have t31 : w3.cell? ⟨w.heap.size, 1, none⟩ = some (.map (some g2)) := (by rw [b3.cell (by simp; omega)]; exact t21); have e30 : w3.cell? ⟨w.heap.size + 1, 0, none⟩ = some (.int .i64 a) := (by rw [b3.cell (by simp; omega)]; exact e20); have e31 : w3.cell? ⟨w.heap.size + 1, 1, none⟩ = some (.int .i64 p) := (by rw [b3.cell (by simp; omega)]; exact e21))
      go_wp2_with fail
      (go_at_call 93; refine (HJ.out _ (HB.out _ b03)).mono ?_; rintro e w4 ⟨rfl, hb4, t4⟩; have HB4 := Lib.hid hb4; clear hb4)
      go_wp2_with fail
      go_ret
      exact ⟨rfl, HB4.out, (Two.of_below b03).trans t4⟩

end Go.Proofs.YtoidmmedpefjfaaGreatDoor
